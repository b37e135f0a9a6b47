package heap_test

import (
	"math"
	"math/rand"
	"runtime"
	"slices"
	"strconv"
	"testing"
	"weak"

	"pinfold/heap"
)

// due is a thing, and when it is due.
type due struct {
	when int
	x    string
}

// model is a heap as a plain list in the order in which things were put in, beside the heap that is to be like it.
type model struct {
	h heap.Heap[string]
	l []due
}

// sorted is the list in order: of what is due at one time what was put in earlier first.
func (m *model) sorted() []due {
	l := slices.Clone(m.l)
	for i := range l {
		for j := i; j > 0 && l[j].when < l[j-1].when; j-- {
			l[j], l[j-1] = l[j-1], l[j]
		}
	}
	return l
}

// at is where x stands in the list; -1, if it isn't there.
func (m *model) at(x string) int {
	return slices.IndexFunc(m.l, func(d due) bool { return d.x == x })
}

func (m *model) put(t *testing.T, when int, x string) {
	t.Helper()
	want := m.at(x) < 0
	if got := m.h.Put(when, x); got != want {
		t.Fatalf("%v: Put(%d, %s): %t", m.l, when, x, got)
	}
	if want {
		m.l = append(m.l, due{when, x})
	}
}

func (m *model) drop(t *testing.T, x string) {
	t.Helper()
	i := m.at(x)
	if got := m.h.Drop(x); got != (i >= 0) {
		t.Fatalf("%v: Drop(%s): %t", m.l, x, got)
	}
	if i >= 0 {
		m.l = slices.Delete(m.l, i, i+1)
	}
}

// first is the first one in order, if there is one.
func (m *model) first() (due, bool) {
	if len(m.l) == 0 {
		return due{}, false
	}
	return m.sorted()[0], true
}

func (m *model) pop(t *testing.T) {
	t.Helper()
	want, is := m.first()
	if when, x, ok := m.h.Pop(); when != want.when || x != want.x || ok != is {
		t.Fatalf("%v: Pop: %d, %q, %t", m.l, when, x, ok)
	}
	if is {
		i := m.at(want.x)
		m.l = slices.Delete(m.l, i, i+1)
	}
}

func (m *model) due(t *testing.T, now int) {
	t.Helper()
	was := slices.Clone(m.l)
	var want []string
	for _, d := range m.sorted() {
		if d.when <= now {
			want = append(want, d.x)
		}
	}
	m.l = slices.DeleteFunc(m.l, func(d due) bool { return d.when <= now })
	if got := m.h.Due(now); !slices.Equal(got, want) {
		t.Fatalf("%v: Due(%d): %v", was, now, got)
	}
}

// check checks that the heap is the plain list, which has none but of these.
func (m *model) check(t *testing.T, things []string) { // P6.1, P6.2
	t.Helper()
	if m.h.Len() != len(m.l) {
		t.Fatalf("%v: Len %d", m.l, m.h.Len())
	}
	want, is := m.first()
	if when, x, ok := m.h.First(); when != want.when || x != want.x || ok != is {
		t.Fatalf("%v: First: %d, %q, %t", m.l, when, x, ok)
	}
	var all []string
	for _, d := range m.sorted() {
		all = append(all, d.x)
	}
	if got := m.h.All(); !slices.Equal(got, all) {
		t.Fatalf("%v: All: %v", m.l, got)
	}
	for _, x := range things {
		want, i := 0, m.at(x)
		if i >= 0 {
			want = m.l[i].when
		}
		if when, ok := m.h.When(x); when != want || ok != (i >= 0) {
			t.Fatalf("%v: When(%s): %d, %t", m.l, x, when, ok)
		}
	}
}

var letters = []string{"", "a", "b", "c", "d"}

func TestExample(t *testing.T) { // P6.1, P6.2
	var m model
	m.put(t, 5, "a")
	m.put(t, 3, "b")
	m.put(t, 5, "c")
	m.put(t, 3, "d")
	m.check(t, letters)
	if l := m.h.Due(4); !slices.Equal(l, []string{"b", "d"}) {
		t.Error(l)
	}
	if when, x, ok := m.h.Pop(); when != 5 || x != "a" || !ok {
		t.Error(when, x, ok)
	}
}

func TestZero(t *testing.T) { // P6.2: the zero heap is empty, and ready
	var m model
	m.check(t, letters)
	m.pop(t)
	m.due(t, math.MaxInt)
	m.drop(t, "a")
	m.drop(t, "")
	m.check(t, letters)
	m.put(t, 0, "") // a zero value is a thing like others
	m.check(t, letters)
	m.put(t, 0, "")
	m.pop(t)
	m.check(t, letters)
	m.pop(t)
}

func TestTwice(t *testing.T) { // P6.1
	var m model
	m.put(t, 5, "a")
	m.put(t, 7, "b")
	for _, when := range []int{5, 4, 6, 9} { // it stays due when it was
		m.put(t, when, "a")
		m.check(t, letters)
	}
	m.drop(t, "a")
	m.drop(t, "a")
	m.check(t, letters)
	m.put(t, 9, "a") // what went may come again
	m.check(t, letters)
	m.pop(t)
	m.put(t, 9, "b") // and stands behind what was put in since
	m.check(t, letters)
	m.due(t, 9)
	m.put(t, 1, "b")
	m.put(t, 1, "a")
	m.check(t, letters)
}

func TestDue(t *testing.T) { // P6.2
	times := []int{math.MinInt, math.MinInt + 1, -1, 0, 1, 7, math.MaxInt - 1, math.MaxInt}
	for _, now := range times {
		var m model
		for _, when := range times {
			for _, n := range []int{1, 0} {
				m.put(t, when, strconv.Itoa(when)+letters[n])
			}
		}
		m.check(t, nil)
		m.due(t, now)
		m.check(t, nil)
		m.due(t, now) // nothing more is
		m.check(t, nil)
		for range times {
			m.pop(t)
			m.pop(t)
		}
	}
}

func TestNil(t *testing.T) { // P6.2
	var h *heap.Heap[string]
	for _, x := range []string{"", "a"} {
		if h.Put(1, x) || h.Drop(x) {
			t.Error("put, or dropped", x)
		}
		if when, ok := h.When(x); when != 0 || ok {
			t.Error(when, ok)
		}
	}
	if when, x, ok := h.First(); when != 0 || x != "" || ok {
		t.Error(when, x, ok)
	}
	if when, x, ok := h.Pop(); when != 0 || x != "" || ok {
		t.Error(when, x, ok)
	}
	if len(h.Due(math.MaxInt)) != 0 || len(h.All()) != 0 || h.Len() != 0 {
		t.Error(h.Due(math.MaxInt), h.All(), h.Len())
	}
}

// do does the deed of that number on the heap and on the plain list, and tells how many deeds there are.
func do(t *testing.T, m *model, deed int) int {
	deeds := []func(){
		func() { m.put(t, 1, "a") },
		func() { m.put(t, 2, "a") },
		func() { m.put(t, 1, "b") },
		func() { m.put(t, 2, "b") },
		func() { m.put(t, 1, "c") },
		func() { m.put(t, 2, "d") },
		func() { m.drop(t, "a") },
		func() { m.drop(t, "b") },
		func() { m.drop(t, "c") },
		func() { m.pop(t) },
		func() { m.due(t, 1) },
	}
	if deed < len(deeds) {
		deeds[deed]()
	}
	return len(deeds)
}

func TestAllShortRowsOfDeeds(t *testing.T) { // P6.1 to P6.3
	const long = 5
	deeds := do(t, &model{}, math.MaxInt)
	all := 1
	for range long {
		all *= deeds
	}
	for n := range all {
		var m model
		for rest, i := n, 0; i < long; rest, i = rest/deeds, i+1 {
			do(t, &m, rest%deeds)
		}
		m.check(t, letters)
	}
}

// some is a number's thing.
func some(n int) string { return "x" + strconv.Itoa(n) }

func TestDeedsAtRandom(t *testing.T) { // P6.1 to P6.3
	r := rand.New(rand.NewSource(6))
	for _, of := range []struct{ things, times int }{{3, 2}, {8, 3}, {20, 4}, {40, 1}, {40, 10}, {60, 1000}} {
		var things []string
		for n := range of.things {
			things = append(things, some(n))
		}
		var m model
		for i := range 4000 {
			x := things[r.Intn(of.things)]
			switch n := r.Intn(20); {
			case n < 11:
				m.put(t, r.Intn(of.times)-of.times/2, x)
			case n < 17:
				m.drop(t, x)
			case n < 19:
				m.pop(t)
			default:
				m.due(t, r.Intn(of.times)-of.times/2-of.times/3)
			}
			if i%7 == 0 {
				m.check(t, things)
			}
		}
	}
}

func TestDropAnyOfMany(t *testing.T) { // P6.3: what stands in another one's stead finds its place, further up as further down
	r := rand.New(rand.NewSource(7))
	for range 300 {
		var m model
		n := 1 + r.Intn(40)
		for x := range n {
			m.put(t, r.Intn(100), some(x))
		}
		for _, x := range r.Perm(n)[:r.Intn(n)] {
			m.drop(t, some(x))
		}
		m.check(t, nil)
		for range len(m.l) + 1 {
			m.pop(t)
		}
	}
}

func TestPoppedInOrder(t *testing.T) { // P6.3
	r := rand.New(rand.NewSource(8))
	var h heap.Heap[int]
	for x := range 5000 {
		h.Put(r.Intn(700), x)
		if x%3 == 0 {
			h.Drop(r.Intn(x + 1))
		}
	}
	was, ahead := math.MinInt, -1
	for range h.Len() {
		when, x, ok := h.Pop()
		if !ok || when < was || when == was && x < ahead {
			t.Fatal(was, ahead, when, x, ok)
		}
		was, ahead = when, x
	}
	if _, _, ok := h.Pop(); ok {
		t.Error("more than there were")
	}
}

func TestNumbers(t *testing.T) { // P6.1: of a type whose values are not all the same as themselves
	var h heap.Heap[float64]
	none := math.NaN()
	if !h.Put(2, none) || !h.Put(1, none) || !h.Put(1, 0) || h.Put(3, math.Copysign(0, -1)) {
		t.Fatal("what is no number is there never, 0 is")
	}
	if when, ok := h.When(none); when != 0 || ok || h.Drop(none) {
		t.Error("what is no number is found", when, ok)
	}
	if l := h.All(); len(l) != 3 || l[0] == l[0] || l[1] != 0 || l[2] == l[2] {
		t.Error(l)
	}
	if when, x, ok := h.Pop(); when != 1 || x == x || !ok {
		t.Error(when, x, ok)
	}
	if !h.Drop(0) || h.Drop(0) {
		t.Error("0 is there once")
	}
	if l := h.Due(2); len(l) != 1 || l[0] == l[0] || h.Len() != 0 {
		t.Error(l, h.Len())
	}
}

func TestAnything(t *testing.T) { // P6.1: of an interface's type, whose values may be what can't be held against one another
	var h heap.Heap[any]
	list := []int{1}
	if !h.Put(2, list) || !h.Put(1, list) || !h.Put(1, "a") || !h.Put(1, 1) || h.Put(5, 1) || !h.Put(1, nil) || h.Put(1, nil) {
		t.Fatal("a list is there never")
	}
	if when, ok := h.When(list); when != 0 || ok || h.Drop(list) {
		t.Error("a list is found", when, ok)
	}
	if when, ok := h.When("a"); when != 1 || !ok || !h.Drop(1) || !h.Drop(nil) || h.Len() != 3 {
		t.Error(when, ok, h.Len())
	}
	if when, x, ok := h.Pop(); when != 1 || len(x.([]int)) != 1 || !ok {
		t.Error(when, x, ok)
	}
	if l := h.Due(2); len(l) != 2 || l[0] != "a" || len(l[1].([]int)) != 1 {
		t.Error(l)
	}
}

func TestAnswersAreNew(t *testing.T) { // what is answered is the caller's own
	var m model
	for n := range 20 {
		m.put(t, n%4, some(n))
	}
	spoil := func(l []string) {
		for i := range l {
			l[i] = "spoiled"
		}
		_ = append(l, "spoiled")
	}
	spoil(m.h.All())
	m.check(t, nil)
	spoil(m.h.Due(0))
	m.l = slices.DeleteFunc(m.l, func(d due) bool { return d.when <= 0 })
	m.check(t, nil)
}

// big is a thing that has memory of its own.
type big [64]byte

// keptOf is how many are still kept of so many things that went through a heap, all but one.
func keptOf(h *heap.Heap[*big], n int) int {
	var things []weak.Pointer[big]
	for i := range n {
		x := new(big)
		things = append(things, weak.Make(x))
		h.Put(i*7%n, x)
	}
	for i := range n / 2 {
		h.Drop(things[i].Value())
	}
	h.Due(n / 4)
	for h.Len() > 1 {
		h.Pop()
	}
	runtime.GC()
	kept := 0
	for _, p := range things {
		if p.Value() != nil {
			kept++
		}
	}
	runtime.KeepAlive(h)
	return kept
}

func TestWhatGoesIsNotKept(t *testing.T) { // P6.1, P6.2: it goes
	if kept := keptOf(&heap.Heap[*big]{}, 40); kept != 1 {
		t.Error(kept, "things are kept, of 1 that is there")
	}
}
