package cpuset_test

import (
	"math"
	"math/rand"
	"slices"
	"testing"

	"pinfold/api"
	"pinfold/cpuset"
)

// strange are numbers that are no worker's.
var strange = []int{-1, -64, -1024, api.MaxCpu, api.MaxCpu + 1, 1 << 40, math.MinInt, math.MaxInt}

// edges are workers at the ends of words, and of all.
var edges = []int{0, 1, 62, 63, 64, 65, 127, 128, 500, 959, 960, 1022, 1023}

// model is a set as a plain list: is worker n in it?
type model [api.MaxCpu]bool

// set is the model as the document lays sets out: worker n is the bit n modulo 64 of the word n by 64.
func (m model) set() api.Set {
	var s api.Set
	for n, in := range m {
		if in {
			s[n/64] |= 1 << (n % 64)
		}
	}
	return s
}

func (m model) list() []int {
	var l []int
	for n, in := range m {
		if in {
			l = append(l, n)
		}
	}
	return l
}

// some are models of many kinds: none, all, single ones, rows, thin and thick ones.
func some() []model {
	r := rand.New(rand.NewSource(1))
	l := []model{{}}
	for _, n := range edges {
		var m model
		m[n] = true
		l = append(l, m)
	}
	for _, row := range [][2]int{{0, 1023}, {0, 63}, {64, 127}, {63, 64}, {60, 200}, {1000, 1023}, {0, 1}} {
		var m model
		for n := row[0]; n <= row[1]; n++ {
			m[n] = true
		}
		l = append(l, m)
	}
	for _, of := range []int{2, 2, 3, 50, 400} {
		var thin, thick model
		for n := range thin {
			thin[n] = r.Intn(of) == 0
			thick[n] = r.Intn(of) != 0
		}
		l = append(l, thin, thick)
	}
	return l
}

func TestOf(t *testing.T) { // P1.1
	if cpuset.Of() != (api.Set{}) {
		t.Error("of none")
	}
	for _, n := range strange {
		if s := cpuset.Of(n, 7, n); s != cpuset.Of(7) {
			t.Error(n, s)
		}
	}
	if s := cpuset.Of(0, 63, 64, 1023, 64); s != (api.Set{0: 1 | 1<<63, 1: 1, 15: 1 << 63}) {
		t.Error(s)
	}
	for _, m := range some() {
		l := m.list()
		slices.Reverse(l)
		was := slices.Clone(l)
		if cpuset.Of(l...) != m.set() {
			t.Error(m.list())
		}
		if !slices.Equal(l, was) {
			t.Error("the list that was handed in is another one", l)
		}
	}
}

func TestRange(t *testing.T) { // P1.1
	ends := append(append([]int{}, edges...), strange...)
	for _, from := range ends {
		for _, to := range ends {
			var m model
			for n := range m {
				m[n] = n >= from && n <= to
			}
			if s := cpuset.Range(from, to); s != m.set() {
				t.Error(from, to, s)
			}
		}
	}
}

func TestPutDropHas(t *testing.T) { // P1.1
	for _, m := range some() {
		s := m.set()
		for n := range api.MaxCpu {
			if cpuset.Has(s, n) != m[n] {
				t.Fatal("has", n)
			}
			with, without := m, m
			with[n], without[n] = true, false
			if cpuset.Put(s, n) != with.set() {
				t.Fatal("put", n)
			}
			if cpuset.Drop(s, n) != without.set() {
				t.Fatal("drop", n)
			}
		}
		for _, n := range strange {
			if cpuset.Has(s, n) || cpuset.Put(s, n) != s || cpuset.Drop(s, n) != s {
				t.Error("no worker's number", n)
			}
		}
	}
}

func TestLenList(t *testing.T) { // P1.1, P1.2
	for _, m := range some() {
		l := m.list()
		if n := cpuset.Len(m.set()); n != len(l) {
			t.Error("len", n, len(l))
		}
		if got := cpuset.List(m.set()); !slices.Equal(got, l) {
			t.Error("list", got, l)
		}
	}
	if l := cpuset.List(api.Set{}); len(l) != 0 {
		t.Error(l)
	}
	l := cpuset.List(cpuset.Of(1, 2))
	l[0] = 9
	if again := cpuset.List(cpuset.Of(1, 2)); !slices.Equal(again, []int{1, 2}) {
		t.Error("an answer is new memory", again)
	}
}

// least is the first one of the rising list l that is from or more.
func least(l []int, from int) (int, bool) {
	for _, n := range l {
		if n >= from {
			return n, true
		}
	}
	return 0, false
}

func TestNextFirst(t *testing.T) { // P1.2
	for _, m := range some() {
		s, l := m.set(), m.list()
		if n, ok := cpuset.First(s); len(l) == 0 && (n != 0 || ok) || len(l) > 0 && (n != l[0] || !ok) {
			t.Error("first", n, ok)
		}
		for _, from := range append(cpuset.List(cpuset.Range(0, 1023)), strange...) {
			want, is := least(l, from)
			if n, ok := cpuset.Next(s, from); n != want || ok != is {
				t.Fatal("next", from, n, ok, want, is)
			}
		}
	}
}

func TestTwoSets(t *testing.T) { // P1.3
	for _, a := range some() {
		for _, b := range some() {
			var and, or, minus model
			within, meets := true, false
			for n := range a {
				and[n] = a[n] && b[n]
				or[n] = a[n] || b[n]
				minus[n] = a[n] && !b[n]
				within = within && !minus[n]
				meets = meets || and[n]
			}
			x, y := a.set(), b.set()
			if cpuset.And(x, y) != and.set() || cpuset.Or(x, y) != or.set() || cpuset.Minus(x, y) != minus.set() {
				t.Error("sets of", a.list(), b.list())
			}
			if cpuset.Within(x, y) != within || cpuset.Meets(x, y) != meets {
				t.Error("questions of", a.list(), b.list())
			}
		}
	}
}

func TestLawsOfOneAndTwo(t *testing.T) { // P1.6
	all, none := cpuset.Range(0, 1023), api.Set{}
	not := func(s api.Set) api.Set { return cpuset.Minus(all, s) }
	for _, ma := range some() {
		a := ma.set()
		if cpuset.And(a, a) != a || cpuset.Or(a, a) != a || cpuset.Minus(a, a) != none || not(not(a)) != a {
			t.Error("with itself", ma.list())
		}
		if cpuset.And(a, all) != a || cpuset.Or(a, none) != a || cpuset.And(a, none) != none || cpuset.Or(a, all) != all {
			t.Error("with none and all", ma.list())
		}
		for _, mb := range some() {
			b := mb.set()
			if cpuset.And(a, b) != cpuset.And(b, a) || cpuset.Or(a, b) != cpuset.Or(b, a) || cpuset.Meets(a, b) != cpuset.Meets(b, a) {
				t.Error("either way")
			}
			if not(cpuset.Or(a, b)) != cpuset.And(not(a), not(b)) || cpuset.Minus(a, b) != cpuset.And(a, not(b)) {
				t.Error("without")
			}
			if cpuset.Or(a, cpuset.And(a, b)) != a || cpuset.And(a, cpuset.Or(a, b)) != a {
				t.Error("swallowed")
			}
			if cpuset.Len(cpuset.And(a, b))+cpuset.Len(cpuset.Or(a, b)) != cpuset.Len(a)+cpuset.Len(b) {
				t.Error("how many")
			}
			if (cpuset.Within(a, b) && cpuset.Within(b, a)) != (a == b) || cpuset.Meets(a, b) == cpuset.Within(a, not(b)) {
				t.Error("questions")
			}
		}
	}
}

func TestLawsOfThree(t *testing.T) { // P1.6
	for _, ma := range some() {
		for _, mb := range some() {
			for _, mc := range some() {
				a, b, c := ma.set(), mb.set(), mc.set()
				if cpuset.And(a, cpuset.And(b, c)) != cpuset.And(cpuset.And(a, b), c) || cpuset.Or(a, cpuset.Or(b, c)) != cpuset.Or(cpuset.Or(a, b), c) {
					t.Fatal("in whatever order")
				}
				if cpuset.And(a, cpuset.Or(b, c)) != cpuset.Or(cpuset.And(a, b), cpuset.And(a, c)) || cpuset.Or(a, cpuset.And(b, c)) != cpuset.And(cpuset.Or(a, b), cpuset.Or(a, c)) {
					t.Fatal("one over the other")
				}
				if cpuset.Within(a, b) && cpuset.Within(b, c) && !cpuset.Within(a, c) {
					t.Fatal("within within")
				}
			}
		}
	}
}
