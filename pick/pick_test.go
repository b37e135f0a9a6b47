package pick_test

import (
	"math"
	"math/rand"
	"slices"
	"strconv"
	"strings"
	"testing"

	"pinfold/api"
	"pinfold/bands"
	"pinfold/cpuset"
	"pinfold/pick"
	"pinfold/topo"
)

// wide has leaves of many depths: m 0, s 1 (a 2, t 3 (b 4, c 5), d 6), e 7, u 8 (f 9, g 10).
const wide = "domain m { domain s { domain a cpus 0; domain t { domain b cpus 1; domain c cpus 2; } domain d cpus 3; } domain e cpus 4; domain u { domain f cpus 5; domain g cpus 6,1023; } }"

// draws are usual ones, and those about the edges of the type.
var draws = []uint{0, 1, 2, 3, 4, 5, 6, 7, 60, 1 << 31, 1 << 32, 1<<63 - 1, 1 << 63, math.MaxUint - 1, math.MaxUint}

// nobodys are numbers of workers that no leaf of wide has.
var nobodys = []int{-1, -2, -64, 7, 64, 1022, api.MaxCpu, api.MaxCpu + 1, api.MaxCpu + 6, 1 << 40, math.MinInt, math.MaxInt}

// must is the tree that a description describes.
func must(t *testing.T, text string) api.Topo {
	t.Helper()
	x, e, at := topo.Parse(text)
	if e != api.OK {
		t.Fatalf("%.80q: %d, %v", text, e, at)
	}
	return x
}

// tree is the tree whose domains have so many around them each; its leaves have a worker each.
func tree(t *testing.T, depths []int) api.Topo {
	t.Helper()
	var text strings.Builder
	open, cpu := 0, 0
	for i, d := range depths {
		text.WriteString(strings.Repeat("}", open-d))
		open = d
		text.WriteString("domain n" + strconv.Itoa(i))
		if i+1 < len(depths) && depths[i+1] > d {
			text.WriteString("{")
			open++
			continue
		}
		text.WriteString(" cpus " + strconv.Itoa(cpu) + ";")
		cpu++
	}
	text.WriteString(strings.Repeat("}", open))
	return must(t, text.String())
}

// ready is a task that waits, on these workers.
func ready(task, prio, stamp int, cpus ...int) api.Ready {
	return api.Ready{Task: task, Prio: prio, Stamp: stamp, Mask: cpuset.Of(cpus...)}
}

// fill is the queues that have these tasks.
func fill(t *testing.T, lists [][]api.Ready) []*bands.Queue {
	t.Helper()
	queues := make([]*bands.Queue, len(lists))
	for d, l := range lists {
		if l == nil && d%2 == 0 { // a queue that is nil is empty
			continue
		}
		queues[d] = bands.New(api.MaxRoom)
		for _, r := range l {
			if e := queues[d].Put(r); e != api.OK {
				t.Fatal(r, e)
			}
		}
	}
	return queues
}

// model is a picker, and the queues, as the document says it: what waits where stands in plain lists, in the queues' order.
type model struct {
	p      *pick.Picker
	queues []*bands.Queue
	x      api.Topo
	cpu    int
	path   []int
	lists  [][]api.Ready
	calls  int
}

// begin is a model of a worker that a leaf has.
func begin(t *testing.T, x api.Topo, cpu int, queues []*bands.Queue) *model {
	t.Helper()
	m := &model{p: pick.New(x, cpu), queues: queues, x: x, cpu: cpu}
	for d, y := range x.Domains {
		if cpuset.Has(y.Cpus, cpu) { // all that lie round the leaf have it, too, and stand ahead of it
			m.path = append([]int{d}, m.path...)
		}
	}
	m.see()
	return m
}

// see lets the lists be as the queues are now.
func (m *model) see() {
	m.lists = make([][]api.Ready, len(m.x.Domains))
	for d := range m.lists {
		if d < len(m.queues) {
			m.lists[d] = m.queues[d].All()
		}
	}
}

// mine is the places of those in the domain's queue that may run on the worker and have that priority.
func (m *model) mine(d, prio int) []int {
	var l []int
	for i, r := range m.lists[d] {
		if r.Prio == prio && cpuset.Has(r.Mask, m.cpu) {
			l = append(l, i)
		}
	}
	return l
}

// best is the greatest priority of those in the queues that may run on the worker; -1, if there are none.
func (m *model) best(domains ...int) int {
	best := -1
	for _, d := range domains {
		for prio := range api.MaxPrio + 1 {
			if len(m.mine(d, prio)) > 0 {
				best = max(best, prio)
			}
		}
	}
	return best
}

// turns is the own queues, that whose turn it is ahead, the others behind it, the nearest first.
func (m *model) turns() []int {
	first := m.path[m.calls%len(m.path)]
	l := []int{first}
	for _, d := range m.path {
		if d != first {
			l = append(l, d)
		}
	}
	return l
}

// others is the domains elsewhere, in the order in which the worker looks there.
func (m *model) others(draw uint) []int {
	var l []int
	in := func(i, d int) bool { return cpuset.Within(m.x.Domains[i].Cpus, m.x.Domains[d].Cpus) }
	for k, up := range m.path[1:] {
		var ring []int
		for i := range m.x.Domains {
			if in(i, up) && !in(i, m.path[k]) && !slices.Contains(m.path, i) {
				ring = append(ring, i)
			}
		}
		for i := range ring {
			l = append(l, ring[(int(draw%uint(len(ring)))+i)%len(ring)])
		}
	}
	return l
}

// next is what the document says of the next call: the domain, and the place there; -1, if nothing is picked.
func (m *model) next(draw uint) (from, at int) {
	if best := m.best(m.path...); best >= 0 {
		for _, d := range m.turns() {
			if l := m.mine(d, best); len(l) > 0 {
				return d, l[0]
			}
		}
	}
	for _, d := range m.others(draw) {
		if best := m.best(d); best >= 0 {
			l := m.mine(d, best)
			return d, l[len(l)-1]
		}
	}
	return 0, -1
}

// call calls Next, checks what is picked, and that nothing else goes; it is the domain, -1 if nothing is picked, and the task.
func (m *model) call(t *testing.T, draw uint) (int, api.Ready) { // P18.2, P18.4, P18.6
	t.Helper()
	from, at := m.next(draw)
	var want api.Ready
	if at >= 0 {
		want = m.lists[from][at]
	}
	row := append(slices.Clone(m.queues), bands.New(1))
	spare := slices.Clone(row)
	d, r, ok := m.p.Next(row[:len(m.queues)], draw)
	if d != from || r != want || ok != (at >= 0) {
		t.Fatalf("%s: worker %d, call %d, draw %d: %v: %d, %v, %t, not %d, %v", topo.Print(m.x), m.cpu, m.calls, draw, m.lists, d, r, ok, from, want)
	}
	if !slices.Equal(row, spare) {
		t.Fatal("the queues that were handed in are others")
	}
	m.follows(t, r, ok)
	if at >= 0 {
		m.lists[from] = slices.Delete(m.lists[from], at, at+1)
	}
	m.calls++
	m.check(t)
	if !ok {
		return -1, r
	}
	return d, r
}

// follows checks what is said to follow of what is picked, ahead of its going.
func (m *model) follows(t *testing.T, r api.Ready, ok bool) { // P18.4, P18.6
	t.Helper()
	any := slices.ContainsFunc(slices.Concat(m.lists...), func(r api.Ready) bool { return cpuset.Has(r.Mask, m.cpu) })
	if ok != any {
		t.Fatalf("worker %d: %v: picked: %t", m.cpu, m.lists, ok)
	}
	if ok && (!cpuset.Has(r.Mask, m.cpu) || m.best(m.path...) > r.Prio) {
		t.Fatalf("worker %d: %v: %v is picked", m.cpu, m.lists, r)
	}
}

// check checks that the queues are as the lists, and what the picker tells.
func (m *model) check(t *testing.T) { // P18.1
	t.Helper()
	for d, l := range m.lists {
		var got []api.Ready
		if d < len(m.queues) {
			got = m.queues[d].All()
		}
		if !slices.Equal(got, l) {
			t.Fatalf("queue %d: %v, not %v", d, got, l)
		}
	}
	if got := m.p.Count(); got != m.calls {
		t.Fatalf("Count: %d, not %d", got, m.calls)
	}
	if got := m.p.Path(); !slices.Equal(got, m.path) {
		t.Fatalf("Path: %v, not %v", got, m.path)
	}
}

func TestOwnExample(t *testing.T) { // P18.2
	x := must(t, "domain m { domain a cpus 0; }")
	for ahead, want := range []struct{ from, task int }{{1, 1}, {0, 2}, {1, 1}, {0, 2}} {
		p := pick.New(x, 0)
		for range ahead {
			if from, r, ok := p.Next(nil, 0); from != 0 || r != (api.Ready{}) || ok {
				t.Error(from, r, ok)
			}
		}
		queues := fill(t, [][]api.Ready{{ready(2, 0, 5, 0)}, {ready(1, 0, 9, 0)}})
		if from, r, ok := p.Next(queues, 0); from != want.from || r.Task != want.task || !ok {
			t.Errorf("%d calls ahead: %d, %v, %t", ahead, from, r, ok)
		}
	}
}

func TestNew(t *testing.T) { // P18.1, P18.3
	x := must(t, wide)
	for cpu, want := range map[int][]int{0: {2, 1, 0}, 1: {4, 3, 1, 0}, 2: {5, 3, 1, 0}, 3: {6, 1, 0}, 4: {7, 0}, 5: {9, 8, 0}, 6: {10, 8, 0}, 1023: {10, 8, 0}} {
		p := pick.New(x, cpu)
		if got := p.Path(); !slices.Equal(got, want) || p.Count() != 0 {
			t.Errorf("worker %d: %v, %d", cpu, got, p.Count())
		}
	}
	if got := pick.New(must(t, "domain a cpus 3;"), 3).Path(); !slices.Equal(got, []int{0}) {
		t.Error(got)
	}
	for _, cpu := range nobodys {
		if pick.New(x, cpu) != nil || pick.New(api.Topo{}, cpu) != nil {
			t.Errorf("worker %d, that no leaf has", cpu)
		}
	}
}

func TestNil(t *testing.T) { // P18.3
	var p *pick.Picker
	queues := fill(t, [][]api.Ready{{ready(1, 0, 0, 0)}})
	for range 2 {
		if from, r, ok := p.Next(queues, 3); from != 0 || r != (api.Ready{}) || ok {
			t.Error(from, r, ok)
		}
		if from, r, ok := p.Next(nil, 0); from != 0 || r != (api.Ready{}) || ok {
			t.Error(from, r, ok)
		}
		if p.Count() != 0 || len(p.Path()) != 0 || queues[0].Len() != 1 {
			t.Error(p.Count(), p.Path(), queues[0].Len())
		}
	}
}

func TestCount(t *testing.T) { // P18.1: calls that find nothing count, and those alone of Next
	p := pick.New(must(t, wide), 1)
	queues := fill(t, [][]api.Ready{0: {ready(1, 0, 0, 1), ready(2, 0, 0, 2)}})
	for n, found := range []bool{true, false, false, false} {
		if p.Path(); p.Count() != n {
			t.Error(n, p.Count())
		}
		if _, _, ok := p.Next(queues, 0); ok != found {
			t.Error(n, ok)
		}
	}
	if p.Count() != 4 || p.Count() != 4 {
		t.Error(p.Count())
	}
}

func TestTurns(t *testing.T) { // P18.2: of one priority, the one whose turn it is, then the nearest
	x := must(t, wide)
	for _, w := range []struct {
		full  []int
		froms []int // of calls with 0, 1, .. ahead
	}{
		{[]int{4, 3, 1, 0}, []int{4, 3, 1, 0, 4, 3, 1, 0, 4}},
		{[]int{3, 1, 0}, []int{3, 3, 1, 0, 3, 3, 1, 0}},
		{[]int{4, 1, 0}, []int{4, 4, 1, 0, 4, 4}}, // at 3's turn it is 4's, which is nearer than 1
		{[]int{4, 3, 0}, []int{4, 3, 4, 0}},
		{[]int{4, 3, 1}, []int{4, 3, 1, 4}},
		{[]int{4, 0}, []int{4, 4, 4, 0}},
		{[]int{3, 0}, []int{3, 3, 3, 0}},
		{[]int{1, 0}, []int{1, 1, 1, 0}},
		{[]int{0}, []int{0, 0, 0, 0, 0}},
	} {
		for ahead, want := range w.froms {
			lists := make([][]api.Ready, len(x.Domains))
			for i, d := range w.full {
				lists[d] = []api.Ready{ready(d, 2, 9-i, 1, 2)}
			}
			p := pick.New(x, 1)
			for range ahead {
				p.Next(nil, 0)
			}
			if from, r, ok := p.Next(fill(t, lists), 1); from != want || r.Task != want || !ok {
				t.Errorf("%v, %d calls ahead: %d, %v, %t, not %d", w.full, ahead, from, r, ok, want)
			}
		}
	}
}

func TestOwn(t *testing.T) { // P18.2: the highest priority for the worker, the oldest, and none of others'
	x := must(t, wide)
	m := begin(t, x, 1, fill(t, [][]api.Ready{
		0: {ready(1, 1, 9, 1), ready(2, 3, 1, 2), ready(3, 1, 8, 0, 1)},
		1: {ready(4, 2, 7, 1)},
		3: {ready(5, 3, 3, 2, 1023), ready(6, 1, 3, 1), ready(7, 0, 1, 1)},
		4: {ready(8, 1, 5, 1), ready(9, 1, 4, 1), ready(10, 0, 0, 1)},
		5: {ready(11, 3, 0, 1)}, // a queue that isn't its own
	}))
	for call, want := range []struct{ from, task int }{{1, 4}, {3, 6}, {4, 9}, {0, 3}, {4, 8}, {0, 1}, {4, 10}, {3, 7}, {5, 11}} {
		if from, r := m.call(t, 0); from != want.from || r.Task != want.task {
			t.Errorf("call %d: %d, %v", call, from, r)
		}
	}
	if from, r := m.call(t, 0); from != -1 {
		t.Error(from, r)
	}
}

func TestElsewhere(t *testing.T) { // P18.2: the nearest by the draw, the newest of the highest priority for the worker
	x := must(t, wide)
	lists := make([][]api.Ready, len(x.Domains))
	for d := range x.Domains {
		lists[d] = []api.Ready{ready(10*d, 1, 2, 1), ready(10*d+1, 1, 1, 1), ready(10*d+2, 0, 9, 1), ready(10*d+3, 3, 9, 0, 2), ready(10*d+4, 1, 9, 2)}
	}
	for _, w := range []struct {
		empty []int
		draw  uint
		want  int
	}{
		{nil, 0, 5}, {nil, 1, 5}, {nil, math.MaxUint, 5}, // the one ring of one
		{[]int{5}, 0, 2}, {[]int{5}, 1, 6}, {[]int{5}, 2, 2}, {[]int{5}, math.MaxUint, 6},
		{[]int{5, 2}, 0, 6}, {[]int{5, 6}, 1, 2}, // gone round
		{[]int{5, 2, 6}, 0, 7}, {[]int{5, 2, 6}, 1, 8}, {[]int{5, 2, 6}, 2, 9}, {[]int{5, 2, 6}, 3, 10}, {[]int{5, 2, 6}, 4, 7}, {[]int{5, 2, 6}, math.MaxUint, 10}, {[]int{5, 2, 6}, 1 << 63, 7},
		{[]int{5, 2, 6, 10, 7}, 3, 8}, {[]int{5, 2, 6, 8, 9, 10}, 1, 7},
	} {
		some := slices.Clone(lists)
		for _, d := range append([]int{0, 1, 3, 4}, w.empty...) { // the own ones have none
			some[d] = []api.Ready{ready(200, 3, 0, 0)}
		}
		m := begin(t, x, 1, fill(t, some))
		for call, task := range []int{10 * w.want, 10*w.want + 1, 10*w.want + 2} { // whichever own queue's turn it is
			if from, r := m.call(t, w.draw); from != w.want || r.Task != task {
				t.Errorf("%v, draw %d, call %d: %d, %v, not %d", w.empty, w.draw, call, from, r, w.want)
			}
		}
	}
}

func TestLackingQueues(t *testing.T) { // P18.2
	x := must(t, wide)
	lists := make([][]api.Ready, len(x.Domains))
	for d := range x.Domains {
		lists[d] = []api.Ready{ready(d, 1, d, 6)}
	}
	lists = append(lists, []api.Ready{ready(99, 3, 0, 6)}, []api.Ready{ready(98, 3, 0, 6)}) // what is beyond is no domain's
	for n := range len(lists) + 1 {
		m := begin(t, x, 6, fill(t, lists)[:n])
		for range len(x.Domains) + 1 {
			m.call(t, 1)
		}
		for d, q := range m.queues {
			if want := max(0, min(d-len(x.Domains)+1, 1)); q.Len() != want {
				t.Errorf("%d queues: %d has %d", n, d, q.Len())
			}
		}
	}
	for n := range len(x.Domains) + 3 {
		m := begin(t, x, 6, make([]*bands.Queue, n)) // all nil
		m.call(t, 5)
		m.queues = slices.Repeat([]*bands.Queue{bands.New(0)}, n)
		m.call(t, 5)
	}
}

func TestWhatIsHandedIn(t *testing.T) { // P18.1, P18.2: the tree isn't kept, an answer is new memory
	x := must(t, wide)
	was := slices.Clone(x.Domains)
	fresh, used := pick.New(x, 1), pick.New(x, 1)
	used.Path()
	for _, p := range []*pick.Picker{fresh, used} {
		queues := fill(t, [][]api.Ready{3: {ready(1, 0, 0, 1)}, 5: {ready(2, 0, 0, 1)}, 10: {ready(3, 0, 0, 1)}})
		clear(x.Domains)
		for _, want := range []int{3, 5, 10} {
			if from, r, ok := p.Next(queues, 0); from != want || !ok {
				t.Error(from, r, ok)
			}
		}
		path := p.Path()
		clear(path[:cap(path)])
		if got := p.Path(); !slices.Equal(got, []int{4, 3, 1, 0}) {
			t.Error(got)
		}
		copy(x.Domains, was)
		pick.New(x, 1).Next(queues, 0)
		if !slices.Equal(x.Domains, was) {
			t.Error("the tree that was handed in is another one")
		}
	}
}

func TestApart(t *testing.T) { // P18.1: of several pickers each counts for itself
	x := must(t, wide)
	a, b := pick.New(x, 1), pick.New(x, 2)
	a.Next(nil, 0)
	a.Next(nil, 0)
	b.Next(nil, 0)
	if a.Count() != 2 || b.Count() != 1 {
		t.Error(a.Count(), b.Count())
	}
}

// small are the contents of a queue that all small trees are tried with; tasks' numbers are by the domain.
func small(d, kind, cpu int) []api.Ready {
	switch kind {
	case 1:
		return []api.Ready{ready(4*d, 0, 4-d, cpu)}
	case 2:
		return []api.Ready{ready(4*d, 1, d, cpu, cpu+1), ready(4*d+1, 1, d, cpu), ready(4*d+2, 0, 0, cpu)}
	case 3:
		return []api.Ready{ready(4*d, 2, 0, cpu+1), ready(4*d+1, 0, 7, cpu)}
	}
	return nil
}

// checkTree checks a tree with all contents of its queues: for each worker, so many calls ahead, and some draws.
func checkTree(t *testing.T, x api.Topo) { // P18.2, P18.4, P18.6
	t.Helper()
	n := len(x.Domains)
	for cpu := range cpuset.Len(x.Domains[0].Cpus) {
		for contents := range 1 << (2 * n) {
			lists := make([][]api.Ready, n)
			for d := range lists {
				lists[d] = small(d, contents>>(2*d)&3, cpu)
			}
			for ahead := range 3 {
				m := begin(t, x, cpu, nil)
				for range ahead {
					m.call(t, 0)
				}
				m.queues = fill(t, lists)
				m.see()
				for range 2 {
					m.call(t, uint(contents+ahead))
				}
			}
		}
	}
}

// checkTrees checks all trees of so many domains more at most, that begin with these depths.
func checkTrees(t *testing.T, depths []int, most int) {
	checkTree(t, tree(t, depths))
	if most == 0 {
		return
	}
	for d := 1; d <= depths[len(depths)-1]+1; d++ {
		checkTrees(t, append(slices.Clone(depths), d), most-1)
	}
}

func TestAllSmallTrees(t *testing.T) { // P18.2, P18.4, P18.6
	checkTrees(t, []int{0}, 3)
}

// atRandom is what waits in so many queues, for workers below most.
func atRandom(r *rand.Rand, domains, most int) [][]api.Ready {
	lists := make([][]api.Ready, domains)
	prios := 1 + r.Intn(api.MaxPrio+1)
	for task := range r.Intn(60) {
		d := r.Intn(domains)
		lists[d] = append(lists[d], ready(task, r.Intn(prios), r.Intn(30), r.Intn(most), r.Intn(most), r.Intn(most)))
	}
	return lists
}

// oldest is, of each own queue with none of a higher priority for the worker in another one, its first one for the worker.
func (m *model) oldest() map[int]api.Ready {
	best := m.best(m.path...)
	l := map[int]api.Ready{}
	for _, d := range m.path {
		if places := m.mine(d, best); len(places) > 0 {
			l[d] = m.lists[d][places[0]]
		}
	}
	return l
}

// checkServed checks that each own queue's oldest was picked within as many calls as there are own queues.
func checkServed(t *testing.T, own int, waits []map[int]api.Ready, picked []int) { // P18.5
	t.Helper()
	for i, l := range waits {
		for d, r := range l {
			if i+own <= len(picked) && !slices.Contains(picked[i:i+own], r.Task) {
				t.Fatalf("%v, of the own queue %d, isn't picked by the calls from %d on: %v", r, d, i, picked)
			}
		}
	}
}

func TestTreesAtRandom(t *testing.T) { // P18.1, P18.2, P18.4 to P18.6
	r := rand.New(rand.NewSource(18))
	for range 400 {
		depths := []int{0}
		for range r.Intn(25) {
			depths = append(depths, 1+r.Intn(min(depths[len(depths)-1]+1, api.MaxDepth-1)))
		}
		x := tree(t, depths)
		workers := cpuset.Len(x.Domains[0].Cpus)
		m := begin(t, x, r.Intn(workers), fill(t, atRandom(r, len(x.Domains), workers+1)))
		var waits []map[int]api.Ready
		var picked []int
		for left := api.MaxDepth; left > 0; {
			waits = append(waits, m.oldest())
			from, task := m.call(t, draws[r.Intn(len(draws))]+uint(r.Intn(9)))
			if from < 0 { // nothing is picked, and so are the calls behind it
				left--
				task.Task = -1
			}
			picked = append(picked, task.Task)
		}
		checkServed(t, len(m.path), waits, picked)
	}
}

func TestGreatestTree(t *testing.T) { // P18.2: all domains that there may be
	var text strings.Builder
	text.WriteString("domain m {")
	for i := range 1023 {
		text.WriteString(" domain s" + strconv.Itoa(i) + " { domain t" + strconv.Itoa(i) + " cpus " + strconv.Itoa(i) + " ; }")
	}
	text.WriteString(" domain u cpus 1023 ; }")
	x := must(t, text.String())
	for _, w := range []struct {
		cpu  int
		draw uint
		want int
	}{{0, 0, 3}, {0, 2044, 2047}, {0, 2045, 3}, {1023, 0, 1}, {1023, 2045, 2046}, {1023, 2046, 1}, {500, 0, 1}, {500, 1000, 1003}, {500, 999, 1000}, {500, 2045, 1}} {
		m := begin(t, x, w.cpu, fill(t, slices.Repeat([][]api.Ready{{ready(1, 0, 0, w.cpu)}}, len(x.Domains))))
		for _, d := range m.path {
			if from, _ := m.call(t, w.draw); !slices.Contains(m.path, from) {
				t.Errorf("%v: %d ahead of %d", w, from, d)
			}
		}
		if from, r := m.call(t, w.draw); from != w.want {
			t.Errorf("%v: %d, %v", w, from, r)
		}
	}
}

func TestTreesThatMayNotBe(t *testing.T) { // nothing is promised of these, but that the calls end
	leaf := api.Domain{Leaf: true, Cpus: cpuset.Of(0)}
	up := func(d api.Domain, n int) api.Domain { d.Up = n; return d }
	for _, domains := range [][]api.Domain{nil, {leaf}, {up(leaf, -1), up(leaf, -1)}, {up(leaf, 1), {Up: 0}}, {up(leaf, 9)}, {{Depth: -1}, up(leaf, -5)}, {{}, {}, up(leaf, 1), {Depth: 8}}, {{}, up(leaf, math.MinInt)}, {up(leaf, math.MaxInt)}} {
		p := pick.New(api.Topo{Domains: domains}, 0)
		queues := fill(t, [][]api.Ready{{ready(1, 0, 0, 0)}, {ready(2, 0, 0, 0)}, {ready(3, 0, 0, 0)}, {ready(4, 0, 0, 0)}})
		for _, draw := range draws {
			p.Next(queues, draw)
		}
		p.Path()
		p.Count()
	}
}
