package bands_test

import (
	"math"
	"math/rand"
	"slices"
	"testing"

	"pinfold/api"
	"pinfold/bands"
	"pinfold/cpuset"
)

// strange are numbers that are no task's and no worker's.
var strange = []int{-1, -2, api.MaxCpu, api.MaxCpu + 1, 1 << 40, math.MinInt, math.MaxInt}

// model is a queue as a plain list in its order, beside the queue that is to be like it.
type model struct {
	q    *bands.Queue
	l    []api.Ready
	room int
}

func begin(room int) *model { return &model{q: bands.New(room), room: room} }

// wrong tells whether one of r's numbers may not be.
func wrong(r api.Ready) bool {
	return r.Task < 0 || r.Task > 255 || r.Prio < 0 || r.Prio > 3 || r.Stamp < 0
}

// ahead tells whether a comes ahead of b, if a was put in later.
func ahead(a, b api.Ready) bool {
	return a.Prio > b.Prio || a.Prio == b.Prio && a.Stamp < b.Stamp
}

// at is where the task stands in the list; -1, if it isn't there.
func (m *model) at(task int) int {
	return slices.IndexFunc(m.l, func(r api.Ready) bool { return r.Task == task })
}

// of is the places of those that may run on the worker.
func (m *model) of(cpu int) []int {
	var l []int
	for i, r := range m.l {
		if cpuset.Has(r.Mask, cpu) {
			l = append(l, i)
		}
	}
	return l
}

// isGone checks that the answer is what stood at the place i, or nothing, if that is below 0; it goes.
func (m *model) isGone(t *testing.T, name string, n, i int, r api.Ready, ok bool) {
	t.Helper()
	var want api.Ready
	if i >= 0 {
		want = m.l[i]
	}
	if r != want || ok != (i >= 0) {
		t.Fatalf("%v: %s(%d): %v, %t, not %v", m.l, name, n, r, ok, want)
	}
	if i >= 0 {
		m.l = slices.Delete(m.l, i, i+1)
	}
}

func (m *model) put(t *testing.T, r api.Ready) {
	t.Helper()
	want := api.OK
	switch {
	case wrong(r):
		want = api.ErrArg
	case m.at(r.Task) >= 0:
		want = api.ErrTwice
	case len(m.l) >= m.room:
		want = api.ErrFull
	default:
		i := 0
		for i < len(m.l) && !ahead(r, m.l[i]) {
			i++
		}
		m.l = slices.Insert(m.l, i, r)
	}
	if e := m.q.Put(r); e != want {
		t.Fatalf("%v: Put(%v): %d, not %d", m.l, r, e, want)
	}
}

func (m *model) oldest(t *testing.T, cpu int) {
	t.Helper()
	i := -1
	if l := m.of(cpu); len(l) > 0 {
		i = l[0]
	}
	r, ok := m.q.Oldest(cpu)
	m.isGone(t, "Oldest", cpu, i, r, ok)
}

func (m *model) newest(t *testing.T, cpu int) {
	t.Helper()
	i, l := -1, m.of(cpu)
	for _, place := range l {
		if m.l[place].Prio == m.l[l[0]].Prio {
			i = place
		}
	}
	r, ok := m.q.Newest(cpu)
	m.isGone(t, "Newest", cpu, i, r, ok)
}

func (m *model) drop(t *testing.T, task int) {
	t.Helper()
	i := m.at(task)
	r, ok := m.q.Drop(task)
	m.isGone(t, "Drop", task, i, r, ok)
}

// get checks what is told of the task.
func (m *model) get(t *testing.T, task int) {
	t.Helper()
	var want api.Ready
	i := m.at(task)
	if i >= 0 {
		want = m.l[i]
	}
	if r, ok := m.q.Get(task); r != want || ok != (i >= 0) {
		t.Fatalf("%v: Get(%d): %v, %t", m.l, task, r, ok)
	}
}

// best checks what is told of the worker.
func (m *model) best(t *testing.T, cpu int) {
	t.Helper()
	want, l := 0, m.of(cpu)
	if len(l) > 0 {
		want = m.l[l[0]].Prio
	}
	if prio, ok := m.q.Best(cpu); prio != want || ok != (len(l) > 0) {
		t.Fatalf("%v: Best(%d): %d, %t", m.l, cpu, prio, ok)
	}
}

// check checks that the queue is the plain list, of which tasks and workers up to these are asked.
func (m *model) check(t *testing.T, tasks, cpus int) { // P8.2 to P8.4, P8.6
	t.Helper()
	if l := m.q.All(); !slices.Equal(l, m.l) {
		t.Fatalf("%v: All: %v", m.l, l)
	}
	if m.q.Len() != len(m.l) || m.q.Room() != m.room {
		t.Fatalf("%v, room %d: Len %d, Room %d", m.l, m.room, m.q.Len(), m.q.Room())
	}
	for task := range tasks {
		m.get(t, task)
	}
	for cpu := range cpus {
		m.best(t, cpu)
	}
	for _, n := range strange {
		m.get(t, n)
		m.best(t, n)
	}
}

// on0 is a task on worker 0.
func on0(task, prio, stamp int) api.Ready {
	return api.Ready{Task: task, Prio: prio, Stamp: stamp, Mask: cpuset.Of(0)}
}

func TestExample(t *testing.T) { // P8.3
	q := bands.New(8)
	for _, r := range []api.Ready{on0(1, 0, 1), on0(2, 1, 2), on0(3, 1, 3)} {
		if e := q.Put(r); e != api.OK {
			t.Fatal(e)
		}
	}
	if r, ok := q.Oldest(0); r != on0(2, 1, 2) || !ok {
		t.Error(r, ok)
	}
	if r, ok := q.Newest(0); r != on0(3, 1, 3) || !ok {
		t.Error(r, ok)
	}
	if r, ok := q.Newest(0); r != on0(1, 0, 1) || !ok || q.Len() != 0 {
		t.Error(r, ok, q.Len())
	}
}

func TestRoom(t *testing.T) { // P8.1, P8.2, P8.4
	for _, w := range []struct{ asked, room int }{
		{0, 0}, {1, 1}, {2, 2}, {8, 8}, {255, 255}, {256, 256}, {257, 257}, {1023, 1023}, {1024, 1024},
		{-1, 0}, {-1024, 0}, {math.MinInt, 0}, {1025, 1024}, {1 << 40, 1024}, {math.MaxInt, 1024},
	} {
		m := begin(w.room)
		m.q = bands.New(w.asked)
		m.check(t, 2, 2)
		for task := range 256 { // the room is that of all priorities together
			m.put(t, on0(task, task%4, 256-task))
		}
		m.put(t, on0(0, 0, 0))
		m.check(t, 257, 2)
		m.oldest(t, 0)
		m.put(t, on0(255, 3, 0))
		m.drop(t, 0)
		m.put(t, on0(0, 0, 0))
		m.check(t, 257, 2)
	}
}

func TestWrong(t *testing.T) { // P8.2: what may not be, and which error comes first
	set := cpuset.Of(0, 3)
	odd := []api.Ready{
		{Task: -1, Mask: set}, {Task: 256, Mask: set}, {Task: math.MinInt, Mask: set}, {Task: math.MaxInt, Mask: set},
		{Prio: -1, Mask: set}, {Prio: 4, Mask: set}, {Prio: math.MinInt, Mask: set}, {Prio: math.MaxInt, Mask: set},
		{Stamp: -1, Mask: set}, {Stamp: math.MinInt, Mask: set}, {Task: 1, Prio: 4, Stamp: -1}, {Task: 1, Stamp: -1},
	}
	for room := range 4 {
		m := begin(room)
		for range 2 {
			for _, r := range odd { // with room and without, of a task that is there and of one that isn't
				m.put(t, r)
			}
			m.put(t, api.Ready{Task: 1, Mask: set})
			m.put(t, api.Ready{Task: 1, Prio: 3, Stamp: 7, Mask: set}) // there, in another band too
			m.put(t, api.Ready{Task: 0, Mask: set})
			m.put(t, api.Ready{Task: 0, Mask: set})
		}
		m.check(t, 3, 5)
		for _, n := range append([]int{2, 255, 256, 257}, strange...) {
			m.drop(t, n)
			m.oldest(t, n)
			m.newest(t, n)
		}
		m.check(t, 3, 5)
	}
}

func TestEdges(t *testing.T) { // P8.1, P8.2: the least and the greatest numbers that may be
	m := begin(100)
	edges := []int{math.MaxInt, 0, math.MaxInt - 1, 1, math.MaxInt, 0, 1 << 20}
	for _, prio := range []int{1, 3, 0, 2} {
		for i, stamp := range edges {
			m.put(t, api.Ready{Task: []int{0, 64, 128, 249}[prio] + i, Prio: prio, Stamp: stamp, Mask: cpuset.Of(0, 1023), Moved: i%2 == 0})
			m.check(t, 256, 2)
		}
	}
	m.best(t, 1023)
	for _, task := range []int{0, 4, 255, 249, 253, 130, 131} {
		m.drop(t, task)
		m.drop(t, task)
		m.check(t, 256, 2)
	}
	for len(m.l) > 0 {
		m.oldest(t, 1023)
		m.newest(t, 1023)
	}
	m.check(t, 256, 2)
	m.oldest(t, 1023)
	m.newest(t, 1023)
}

func TestSameStamp(t *testing.T) { // P8.1: of one stamp as they were put in
	m := begin(20)
	for i, task := range []int{9, 2, 7, 4, 11, 0, 5} {
		m.put(t, on0(task, 2, 6-i%2))
	}
	m.check(t, 12, 1)
	m.drop(t, 7)
	m.put(t, on0(7, 2, 6)) // behind all of its stamp, now
	m.drop(t, 2)
	m.put(t, on0(2, 2, 5))
	m.check(t, 12, 1)
	for len(m.l) > 0 {
		m.oldest(t, 0)
	}
}

func TestWorkers(t *testing.T) { // P8.3: each worker has its own
	m := begin(20)
	masks := []api.Set{cpuset.Of(0), cpuset.Of(1, 1023), {}, cpuset.Range(0, 1023), cpuset.Of(64, 5)}
	for task := range 20 {
		m.put(t, api.Ready{Task: task, Prio: task * 7 % 4, Stamp: task * 3 % 5, Mask: masks[task%5]})
	}
	m.check(t, 20, 70)
	for _, cpu := range []int{64, 1, 2, 0, 1023, 5, 1022} {
		m.newest(t, cpu)
		m.best(t, cpu)
		m.oldest(t, cpu)
		m.best(t, cpu)
	}
	m.check(t, 20, 70)
	for _, cpu := range []int{0, 1, 5} {
		for range m.l {
			m.oldest(t, cpu)
		}
		m.newest(t, cpu)
	}
	m.check(t, 20, 70)
	if m.q.Len() != 4 {
		t.Error("nobody's stay", m.q.All())
	}
}

func TestLongestFirst(t *testing.T) { // P8.5
	r := rand.New(rand.NewSource(8))
	for range 100 {
		q := bands.New(60)
		for task := range 60 {
			q.Put(api.Ready{Task: task, Prio: r.Intn(4), Stamp: r.Intn(20), Mask: cpuset.Of(r.Intn(3), r.Intn(3))})
		}
		cpu := r.Intn(3)
		was := api.Ready{Prio: 3}
		for x, ok := q.Oldest(cpu); ok; x, ok = q.Oldest(cpu) {
			if ahead(x, was) || !cpuset.Has(x.Mask, cpu) {
				t.Fatal(x, "behind", was)
			}
			was = x
		}
		for _, x := range q.All() {
			if cpuset.Has(x.Mask, cpu) {
				t.Fatal(x, "is left")
			}
		}
	}
}

func TestNil(t *testing.T) { // P8.4
	var m model
	m.check(t, 3, 3)
	for _, r := range []api.Ready{on0(0, 0, 0), on0(255, 3, math.MaxInt), on0(-1, 0, 0), on0(0, 4, 0), on0(0, 0, -1)} {
		m.put(t, r)
	}
	for _, n := range append([]int{0, 1}, strange...) {
		m.oldest(t, n)
		m.newest(t, n)
		m.drop(t, n)
	}
	m.check(t, 3, 3)
}

// do does the deed of that number on the queue and on the plain list, and tells how many deeds there are.
func do(t *testing.T, m *model, deed int) int {
	both := cpuset.Of(0, 1)
	deeds := []func(){
		func() { m.put(t, on0(1, 0, 1)) },
		func() { m.put(t, api.Ready{Task: 1, Prio: 1, Stamp: 1, Mask: both}) },
		func() { m.put(t, api.Ready{Task: 2, Prio: 0, Stamp: 1, Mask: both, Moved: true}) },
		func() { m.put(t, api.Ready{Task: 2, Prio: 1, Stamp: 0, Mask: cpuset.Of(1)}) },
		func() { m.put(t, api.Ready{Task: 3, Prio: 0, Stamp: 0, Mask: both}) },
		func() { m.put(t, on0(3, 1, 2)) },
		func() { m.oldest(t, 0) },
		func() { m.oldest(t, 1) },
		func() { m.newest(t, 0) },
		func() { m.newest(t, 1) },
		func() { m.drop(t, 1) },
		func() { m.drop(t, 3) },
	}
	if deed < len(deeds) {
		deeds[deed]()
	}
	return len(deeds)
}

func TestAllShortRowsOfDeeds(t *testing.T) { // P8.2, P8.3, P8.6
	const long = 4
	deeds := do(t, begin(0), math.MaxInt)
	all := 1
	for range long {
		all *= deeds
	}
	for room := range 4 {
		for n := range all {
			m := begin(room)
			for rest, i := n, 0; i < long; rest, i = rest/deeds, i+1 {
				do(t, m, rest%deeds)
			}
			m.check(t, 4, 3)
		}
	}
}

func TestDeedsAtRandom(t *testing.T) { // P8.2, P8.3, P8.6
	r := rand.New(rand.NewSource(9))
	for _, of := range []struct{ room, tasks, stamps, cpus int }{{2, 4, 2, 2}, {5, 8, 3, 3}, {12, 20, 1, 2}, {40, 50, 5, 4}, {300, 256, 40, 9}, {1024, 256, 1 << 20, 1024}} {
		m := begin(of.room)
		for i := range 2500 {
			cpu := r.Intn(of.cpus)
			switch n := r.Intn(20); {
			case n < 12:
				set := cpuset.Of(r.Intn(of.cpus), r.Intn(of.cpus), r.Intn(of.cpus))
				m.put(t, api.Ready{Task: r.Intn(of.tasks), Prio: r.Intn(4), Stamp: r.Intn(of.stamps), Mask: set, Moved: r.Intn(2) == 0})
			case n < 14:
				m.oldest(t, cpu)
			case n < 16:
				m.newest(t, cpu)
			default:
				m.drop(t, r.Intn(of.tasks))
			}
			if i%5 == 0 {
				m.check(t, min(of.tasks, 60), min(of.cpus, 9))
			}
		}
	}
}

func TestAnswersAreNew(t *testing.T) { // what is answered is the caller's own
	m := begin(9)
	for task := range 7 {
		m.put(t, on0(task, task%2, task))
	}
	l := m.q.All()
	for i := range l {
		l[i] = api.Ready{Task: 9}
	}
	_ = append(l, api.Ready{Task: 9})
	m.check(t, 10, 1)
}

func TestQueuesAreApart(t *testing.T) { // what is done to one changes no other one
	a, b := begin(3), begin(4)
	a.put(t, on0(1, 1, 1))
	b.check(t, 3, 1)
	b.put(t, on0(1, 2, 3))
	b.put(t, on0(2, 1, 1))
	a.check(t, 3, 1)
	a.drop(t, 1)
	b.check(t, 3, 1)
}
