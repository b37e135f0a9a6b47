package shrink_test

import (
	"math"
	"math/rand"
	"slices"
	"strconv"
	"strings"
	"testing"

	"pinfold/api"
	"pinfold/cpuset"
	"pinfold/prog"
	"pinfold/sched"
	"pinfold/shrink"
	"pinfold/topo"
)

// tree is the tree that a description describes.
func tree(t *testing.T, text string) api.Topo {
	t.Helper()
	x, e, at := topo.Parse(text)
	if e != api.OK {
		t.Fatal(text, e, at)
	}
	return x
}

// code is a program of these instructions, with a comma between two.
func code(t *testing.T, text string) api.Prog {
	t.Helper()
	p, e, line := prog.Parse("prog 0\n\t" + strings.ReplaceAll(text, ", ", "\n\t") + "\n")
	if e != api.OK {
		t.Fatal(text, e, line)
	}
	return p
}

// entries are ticks that are told apart by their A.
func entries(l ...int) []api.Entry {
	var out []api.Entry
	for _, n := range l {
		out = append(out, api.Entry{Kind: api.EnTick, A: n})
	}
	return out
}

// upTo are the numbers below n.
func upTo(n int) []int {
	var l []int
	for i := range n {
		l = append(l, i)
	}
	return l
}

// names are the entries' numbers.
func names(l []api.Entry) []int {
	var out []int
	for _, e := range l {
		out = append(out, e.A)
	}
	return out
}

// holding is a test that a function says, which counts nothing.
type holding func(l []int) bool

func (h holding) Holds(l []api.Entry) bool { return h(names(l)) }

// all holds of what has all of the numbers.
func all(want ...int) holding {
	return func(l []int) bool {
		return !slices.ContainsFunc(want, func(n int) bool { return !slices.Contains(l, n) })
	}
}

// log is a test that keeps what it was asked of.
type log struct {
	test  shrink.Test
	asked [][]api.Entry
}

func (x *log) Holds(l []api.Entry) bool {
	x.asked = append(x.asked, l)
	return x.test.Holds(l)
}

// is holds entries' numbers against what is wanted.
func is(t *testing.T, what string, got []api.Entry, want ...int) {
	t.Helper()
	if !slices.Equal(got, entries(want...)) {
		t.Errorf("%s: %v, not %v", what, names(got), want)
	}
}

func TestExample(t *testing.T) { // P34.1, P34.2
	bad := api.Entry{Kind: api.EnStep, A: 7, Draw: 5}
	h := shrink.Has{T: tree(t, "domain m cpus 0-1;"), C: api.Config{Room: 3, Progs: []api.Prog{code(t, "out r0, exit r0")}}, Kind: api.EvFail, A: int(api.ErrArg)}
	l := []api.Entry{{Kind: api.EnNew, B: -1, C: -1}, {Kind: api.EnStep}, {Kind: api.EnTick}, bad, {Kind: api.EnStep, A: 1}, {Kind: api.EnTick}}
	if !h.Holds(l) || h.Holds(l[:3]) || !slices.Equal(shrink.Shrink(l, h), []api.Entry{bad}) || !shrink.Minimal([]api.Entry{bad}, h) || shrink.Minimal(l, h) {
		t.Error(shrink.Shrink(l, h))
	}
}

func TestHas(t *testing.T) { // P34.1
	x := tree(t, "domain m { domain a cpus 0; domain b cpus 1; }")
	c := api.Config{Room: 2, Locks: 1, Masks: []api.Set{cpuset.Of(1)}, Progs: []api.Prog{code(t, "set r1 7, out r1, exit r1")}}
	start, step, tick := api.Entry{Kind: api.EnNew, B: -1, C: -1}, api.Entry{Kind: api.EnStep, A: 1}, api.Entry{Kind: api.EnTick}
	run := []api.Entry{start, step, step, step, step}
	for _, y := range []struct {
		kind, a int
		l       []api.Entry
		want    bool
	}{
		{api.EvNew, 0, run, true}, {api.EvNew, 0, run[:1], true}, {api.EvNew, 1, run, false}, {api.EvNew, 0, nil, false}, {api.EvNew, 0, run[1:], false},
		{api.EvReady, 0, run[:1], true}, {api.EvReady, 1, run, false}, {api.EvDispatch, 0, run[:1], false}, {api.EvDispatch, 0, run[:2], true},
		{api.EvOut, 7, run, true}, {api.EvOut, 7, run[:4], true}, {api.EvOut, 7, run[:3], false}, {api.EvOut, 8, run, false}, {api.EvExit, 7, run, true}, {api.EvExit, 7, run[:4], false}, {api.EvExit, 0, run, false},
		{api.EvTick, 1, run, false}, {api.EvTick, 1, []api.Entry{tick}, true}, {api.EvTick, 2, []api.Entry{tick}, false}, {api.EvTick, 2, []api.Entry{tick, tick}, true}, {api.EvTick, 1, []api.Entry{tick, tick}, true},
		{api.EvIdle, 0, []api.Entry{step, start}, true}, {api.EvIdle, 0, []api.Entry{start, step}, false},
		{api.EvFail, int(api.ErrFull), []api.Entry{start, start, start}, true}, {api.EvFail, int(api.ErrFull), []api.Entry{start, start}, false},
		{api.EvFail, int(api.ErrArg), []api.Entry{{}}, true}, {api.EvFail, int(api.ErrArg), []api.Entry{{Kind: 16}}, true}, {0, 0, run, false}, {-1, 0, run, false}, {api.EvReg + 1, 0, run, false},
	} {
		if got := (shrink.Has{T: x, C: c, Kind: y.kind, A: y.a}).Holds(y.l); got != y.want {
			t.Errorf("%d, %d of %v: %t", y.kind, y.a, y.l, got)
		}
	}
}

func TestHasNoMachine(t *testing.T) { // P34.1: of what no machine is made nothing is told
	x := tree(t, "domain m cpus 0;")
	for _, h := range []shrink.Has{{}, {Kind: api.EvFail, A: 1}, {T: x, Kind: api.EvFail, A: 1}, {C: api.Config{Room: 1}, Kind: api.EvFail, A: 1}, {T: x, C: api.Config{Room: 257}, Kind: api.EvFail, A: 1}, {T: x, C: api.Config{Room: 1, Progs: []api.Prog{{}}}, Kind: api.EvFail, A: 1}, {T: x, C: api.Config{Room: 1, Locks: -1}, Kind: api.EvFail, A: 1}} {
		for _, l := range [][]api.Entry{nil, {{}}, {{Kind: api.EnTick}}} {
			if h.Holds(l) || shrink.Shrink(l, h) != nil || shrink.Minimal(l, h) {
				t.Error(h, l)
			}
		}
	}
	if !(shrink.Has{T: x, C: api.Config{Room: 1}, Kind: api.EvFail, A: 1}).Holds([]api.Entry{{}}) {
		t.Error("what is right is told")
	}
}

func TestWithout(t *testing.T) { // P34.1
	l := entries(0, 1, 2, 3, 4)
	for _, x := range []struct {
		from, n int
		want    []int
	}{
		{0, 1, []int{1, 2, 3, 4}}, {0, 2, []int{2, 3, 4}}, {1, 1, []int{0, 2, 3, 4}}, {1, 3, []int{0, 4}}, {4, 1, []int{0, 1, 2, 3}}, {3, 1, []int{0, 1, 2, 4}},
		{0, 5, nil}, {0, 4, []int{4}}, {0, 6, nil}, {1, 4, []int{0}}, {1, 5, []int{0}}, {4, 2, []int{0, 1, 2, 3}}, {3, 9, []int{0, 1, 2}},
		{5, 1, upTo(5)}, {6, 1, upTo(5)}, {math.MaxInt, 1, upTo(5)}, {math.MaxInt, math.MaxInt, upTo(5)}, {0, math.MaxInt, nil}, {2, math.MaxInt, []int{0, 1}}, {4, math.MaxInt, []int{0, 1, 2, 3}},
		{-1, 1, upTo(5)}, {-1, 3, upTo(5)}, {math.MinInt, math.MaxInt, upTo(5)}, {0, 0, upTo(5)}, {2, 0, upTo(5)}, {2, -1, upTo(5)}, {2, math.MinInt, upTo(5)}, {-1, 0, upTo(5)}, {5, 0, upTo(5)},
	} {
		is(t, "Without "+strconv.Itoa(x.from)+", "+strconv.Itoa(x.n), shrink.Without(l, x.from, x.n), x.want...)
	}
	for from := -1; from < 3; from++ {
		for n := -1; n < 3; n++ {
			if got := shrink.Without(nil, from, n); len(got) > 0 {
				t.Error(from, n, got)
			}
		}
	}
}

func TestWithoutAll(t *testing.T) { // P34.1, against places one by one; answers are new memory
	for size := range 9 {
		for from := -2; from < 11; from++ {
			for n := -2; n < 11; n++ {
				l := entries(upTo(size)...)
				var want []int
				for i := range size {
					if i < from || i >= from+n || from < 0 {
						want = append(want, i)
					}
				}
				got := shrink.Without(l, from, n)
				is(t, "Without", got, want...)
				for i := range got {
					got[i].A = 99
				}
				_ = append(got, api.Entry{A: 98})
				is(t, "the argument", l, upTo(size)...)
			}
		}
	}
}

func TestShrink(t *testing.T) { // P34.2
	for _, x := range []struct {
		what string
		size int
		test shrink.Test
		want []int
	}{
		{"none is asked for", 9, all(), nil},
		{"one", 9, all(4), []int{4}},
		{"the first", 9, all(0), []int{0}},
		{"the last", 9, all(8), []int{8}},
		{"two", 16, all(3, 12), []int{3, 12}},
		{"all", 3, all(0, 1, 2), []int{0, 1, 2}},
		{"of one", 1, all(0), []int{0}},
		{"of one, none", 1, all(), nil},
		{"of none", 0, all(), nil},
		{"doesn't hold", 9, all(9), nil},
		{"of none, doesn't hold", 0, all(0), nil},
		{"at least four: the last of the first eight are left", 9, holding(func(l []int) bool { return len(l) >= 4 }), []int{4, 5, 6, 7}},
		{"an even number", 7, holding(func(l []int) bool { return len(l)%2 == 1 }), []int{6}},
		{"one of two: the later one is left", 8, holding(func(l []int) bool { return slices.Contains(l, 1) || slices.Contains(l, 5) }), []int{5}},
		{"never less", 5, holding(func(l []int) bool { return len(l) == 5 }), upTo(5)},
		{"the length of a power of two", 8, holding(func(l []int) bool { return len(l)&(len(l)-1) == 0 && len(l) > 0 }), []int{7}},
	} {
		is(t, x.what, shrink.Shrink(entries(upTo(x.size)...), x.test), x.want...)
	}
}

func TestMorePasses(t *testing.T) { // P34.2: with 1 passes go on until one takes nothing away
	turns := holding(func(l []int) bool { // 1 goes only where 3 is gone already, 0 where 1 is
		return slices.Contains(l, 2) && (slices.Contains(l, 0) || !slices.Contains(l, 1)) && (slices.Contains(l, 1) || !slices.Contains(l, 3))
	})
	is(t, "in turn", shrink.Shrink(entries(0, 1, 2, 3), turns), 2)
}

// text is numbers with a comma between two.
func text(l []int) string {
	var s []string
	for _, n := range l {
		s = append(s, strconv.Itoa(n))
	}
	return "[" + strings.Join(s, ",") + "]"
}

// second is a second reading of P34.2: what the test is asked, in order, and the answer; entries are told apart by gone ones.
func second(size int, holds func(l []int) bool) (asked [][]int, l []int) {
	ask := func(l []int) bool {
		asked = append(asked, l)
		return holds(l)
	}
	l = upTo(size)
	if !ask(l) {
		return asked, nil
	}
	k := 1
	for k*2 <= size {
		k *= 2
	}
	for {
		taken := 0
		place := 0
		for place < len(l) {
			var rest []int
			for i, n := range l {
				if i < place || i >= place+k {
					rest = append(rest, n)
				}
			}
			if ask(rest) {
				taken += len(l) - len(rest)
				l = rest
			} else {
				place += k
			}
		}
		if k == 1 && taken == 0 {
			return asked, l
		}
		if k > 1 {
			k = k / 2
		}
	}
}

// compare holds Shrink against the second reading, and the laws.
func compare(t *testing.T, size int, h holding) {
	t.Helper()
	l := entries(upTo(size)...)
	kept := slices.Clone(l)
	x := &log{test: h}
	got := shrink.Shrink(l, x)
	asked, want := second(size, h)
	is(t, "Shrink", got, want...)
	if len(asked) != len(x.asked) {
		t.Fatalf("asked %d times, not %d", len(x.asked), len(asked))
	}
	for i := range asked {
		is(t, "asked", x.asked[i], asked[i]...)
	}
	if !slices.Equal(l, kept) {
		t.Fatal("the argument is changed")
	}
	if !h.Holds(l) {
		if got != nil || shrink.Minimal(l, h) {
			t.Fatal(got)
		}
		return
	}
	if !h.Holds(got) || !slices.IsSorted(names(got)) || !minimal(got, h) || !shrink.Minimal(got, h) { // P34.4: rising numbers are some of the entries, in their order
		t.Fatal(names(got))
	}
	again := shrink.Shrink(got, h)
	if len(again) > len(got) || !h.Holds(again) { // P34.5
		t.Fatal(names(got), names(again))
	}
	if got, want := shrink.Minimal(l, h), minimal(l, h); got != want {
		t.Fatal(got, want)
	}
}

// minimal is a second reading of P34.3.
func minimal(l []api.Entry, h holding) bool {
	if !h.Holds(l) {
		return false
	}
	for i := range l {
		if h.Holds(slices.Delete(slices.Clone(l), i, i+1)) {
			return false
		}
	}
	return true
}

func TestAllTests(t *testing.T) { // P34.2 to P34.5: all tests of up to three entries, by which sets of them they hold
	for size := range 4 {
		for table := range 1 << (1 << size) {
			compare(t, size, func(l []int) bool {
				bits := 0
				for _, n := range l {
					bits |= 1 << n
				}
				return table>>bits&1 == 1
			})
		}
	}
}

func TestRandomTests(t *testing.T) { // P34.2 to P34.5
	for seed := range int64(3000) {
		r := rand.New(rand.NewSource(seed))
		size, rare := r.Intn(40), 1+r.Intn(9)
		known := map[string]bool{text(upTo(size)): r.Intn(20) > 0}
		compare(t, size, func(l []int) bool {
			s := text(l)
			if _, is := known[s]; !is {
				known[s] = r.Intn(rare) == 0
			}
			return known[s]
		})
	}
}

func TestNeeded(t *testing.T) { // P34.2, P34.4: where some entries are needed, these are left
	for seed := range int64(500) {
		r := rand.New(rand.NewSource(seed))
		size := 1 + r.Intn(300)
		var want []int
		for n := range size {
			if r.Intn(12) == 0 {
				want = append(want, n)
			}
		}
		is(t, "needed", shrink.Shrink(entries(upTo(size)...), all(want...)), want...)
		compare(t, size, all(want...))
	}
}

func TestMinimal(t *testing.T) { // P34.3
	for _, x := range []struct {
		l    []int
		test shrink.Test
		want bool
	}{
		{[]int{1, 2}, all(1, 2), true}, {[]int{1, 2}, all(1), false}, {[]int{1, 2}, all(2), false}, {[]int{1, 2}, all(), false}, {[]int{1, 2}, all(3), false}, {[]int{1, 1}, all(1), false}, {[]int{1}, all(1), true},
		{nil, all(), true}, {nil, all(1), false}, {[]int{1}, all(), false}, {[]int{1, 2, 3}, all(1, 2), false}, {[]int{1, 2, 3}, all(2, 3), false}, {[]int{1, 2, 3}, all(1, 3), false},
		{upTo(4), holding(func(l []int) bool { return len(l)%2 == 0 }), true}, // though it holds of less
		{nil, nil, false}, {[]int{1}, nil, false},
	} {
		if got := shrink.Minimal(entries(x.l...), x.test); got != x.want {
			t.Errorf("%v: %t", x.l, got)
		}
	}
}

func TestNoTest(t *testing.T) { // P34.2, P34.3
	for _, l := range [][]api.Entry{nil, entries(1), entries(1, 2, 3)} {
		if got := shrink.Shrink(l, nil); got != nil || shrink.Minimal(l, nil) {
			t.Error(got)
		}
	}
}

func TestTestsThatPanic(t *testing.T) { // a call never panics: what a test that does says is that it doesn't hold
	var lacking *shrink.Has
	var none holding
	var asked *log
	for _, x := range []shrink.Test{lacking, none, asked, &log{}, holding(func([]int) bool { panic("no") })} {
		if got := shrink.Shrink(entries(1, 2, 3), x); got != nil || shrink.Minimal(entries(1), x) || shrink.Minimal(nil, x) {
			t.Error(x, got)
		}
	}
	picky := holding(func(l []int) bool { return l[len(l)-1] == 2 })
	is(t, "of none it panics", shrink.Shrink(entries(0, 1, 2), picky), 2)
	if !shrink.Minimal(entries(2), picky) {
		t.Error("of none it panics")
	}
}

func TestMemory(t *testing.T) { // answers are new, also for a test that keeps what it was asked of; what is handed in isn't changed, its spare room neither
	roomy := entries(upTo(12)...)
	for _, want := range [][]int{nil, {0}, {3, 4}, {9}, upTo(10)} {
		x := &log{test: all(want...)}
		l := roomy[:10]
		got := shrink.Shrink(l, x)
		is(t, "Shrink", got, want...)
		for i := range got {
			got[i].A = 99
		}
		_ = append(got, api.Entry{A: 98})
		is(t, "all", roomy, upTo(12)...)
		for _, a := range x.asked {
			if slices.ContainsFunc(a, func(e api.Entry) bool { return e.A > 90 }) {
				t.Error("an answer is what the test was asked of")
			}
		}
		shrink.Minimal(l, x)
		is(t, "all", roomy, upTo(12)...)
	}
}

func TestHasChangesNothing(t *testing.T) { // nor is it other the second time
	x := tree(t, "domain m { domain a cpus 0; domain b cpus 1; }")
	h := shrink.Has{T: x, C: api.Config{Room: 2, Masks: []api.Set{cpuset.Of(1, 900)}, Progs: []api.Prog{code(t, "out r0, exit r0")}}, Kind: api.EvOut}
	l := []api.Entry{{Kind: api.EnNew, C: -1}, {Kind: api.EnStep, A: 1}, {Kind: api.EnStep, A: 1}, {Kind: api.EnOffline}}
	kept := slices.Clone(l)
	for range 3 {
		if !h.Holds(l) || h.Holds(l[:2]) {
			t.Error("other")
		}
	}
	if !slices.Equal(l, kept) || !topo.Same(x, tree(t, "domain m { domain a cpus 0; domain b cpus 1; }")) || h.C.Masks[0] != cpuset.Of(1, 900) || !prog.Same(h.C.Progs[0], code(t, "out r0, exit r0")) {
		t.Error(l, h)
	}
}

// anyScript is a script for a machine of two sockets, with all kinds of entries.
func anyScript(r *rand.Rand) []api.Entry {
	var l []api.Entry
	for range 20 + r.Intn(100) {
		e := api.Entry{Kind: api.EnStep, A: r.Intn(3), Draw: uint(r.Intn(9))}
		if r.Intn(3) == 0 {
			e = api.Entry{Kind: 1 + r.Intn(15), A: r.Intn(4), B: r.Intn(4) - 1, C: -1}
		}
		l = append(l, e)
	}
	return l
}

func TestRandomScripts(t *testing.T) { // P34.1, P34.4, P34.5: of each event that a machine tells
	x := tree(t, "domain m { domain a queue 2 cpus 0-1; domain b cpus 2; }")
	c := api.Config{Room: 6, Locks: 1, Masks: []api.Set{cpuset.Of(0, 1), cpuset.Of(2)}, Progs: []api.Prog{
		code(t, "lock r0 0, yield, unlock r0 0, jump 0"), code(t, "spawn r1 2, join r2 r1, out r2, exit r2"), code(t, "set r1 5, mask r2 1, sleep r1, exit r1"),
	}}
	shrunk := 0
	for seed := range int64(40) {
		r := rand.New(rand.NewSource(seed))
		l := anyScript(r)
		m, _ := sched.New(x, c)
		for _, e := range l {
			m.Do(e)
		}
		told := m.Events()
		for kind := 1; kind <= api.EvReg; kind++ {
			a := r.Intn(8)
			if at := slices.IndexFunc(told, func(e api.Event) bool { return e.Kind == kind }); at >= 0 && r.Intn(4) > 0 {
				a = told[at].A
			}
			want := slices.ContainsFunc(told, func(e api.Event) bool { return e.Kind == kind && e.A == a })
			h := shrink.Has{T: x, C: c, Kind: kind, A: a}
			if got := h.Holds(l); got != want {
				t.Fatal(seed, kind, a, got)
			}
			got := shrink.Shrink(l, h)
			if !want {
				if got != nil || shrink.Minimal(l, h) {
					t.Fatal(seed, kind, a, got)
				}
				continue
			}
			shrunk++
			if !h.Holds(got) || !shrink.Minimal(got, h) || !within(got, l) || len(shrink.Shrink(got, h)) > len(got) {
				t.Fatal(seed, kind, a, got)
			}
		}
	}
	if shrunk < 150 {
		t.Error("hardly shrunk:", shrunk)
	}
}

// within tells whether l has all of the entries, in their order.
func within(some, l []api.Entry) bool {
	for _, e := range l {
		if len(some) > 0 && some[0] == e {
			some = some[1:]
		}
	}
	return len(some) == 0
}
