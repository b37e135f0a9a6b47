package plan_test

import (
	"math"
	"math/rand"
	"slices"
	"strconv"
	"strings"
	"testing"

	"pinfold/api"
	"pinfold/cpuset"
	"pinfold/load"
	"pinfold/plan"
	"pinfold/topo"
)

// small is the document's own example: m 0, a 1, b 2.
const small = "domain m { domain a cpus 0; domain b cpus 1; }"

// wide has leaves of many depths: m 0, s 1 (a 2, t 3 (b 4, c 5), d 6), e 7, u 8 (v 9 (f 10), g 11), h 12.
const wide = "domain m { domain s { domain a cpus 0; domain t { domain b cpus 1; domain c cpus 2; } domain d cpus 3; } domain e cpus 4; domain u { domain v { domain f cpus 5; } domain g cpus 6; } domain h cpus 7; }"

// all is all workers.
var all = cpuset.Range(0, api.MaxCpu-1)

// nones are numbers that are no domain's of any tree.
var nones = []int{-1, -2, -64, -api.MaxDomains, math.MinInt32, math.MinInt + 1, math.MinInt, api.MaxDomains, 1 << 31, 1 << 40, math.MaxInt - 1, math.MaxInt}

// must is the tree that a description describes.
func must(t *testing.T, text string) api.Topo {
	t.Helper()
	x, e, at := topo.Parse(text)
	if e != api.OK {
		t.Fatalf("%.80q: %d, %v", text, e, at)
	}
	return x
}

// tree is the tree whose domains have so many around them each; its leaves have two workers each.
func tree(t *testing.T, depths []int) api.Topo {
	t.Helper()
	var text strings.Builder
	open, cpu := 0, 0
	for i, d := range depths {
		text.WriteString(strings.Repeat("}", open-d))
		open = d
		text.WriteString("domain n" + strconv.Itoa(i))
		if i+1 < len(depths) && depths[i+1] > d {
			text.WriteString("{")
			open++
			continue
		}
		text.WriteString(" cpus " + strconv.Itoa(cpu) + "," + strconv.Itoa(cpu+1) + ";")
		cpu += 2
	}
	text.WriteString(strings.Repeat("}", open))
	return must(t, text.String())
}

// depthsAtRandom is the depths of a tree's domains, so many more than one at most.
func depthsAtRandom(r *rand.Rand, more int) []int {
	depths := []int{0}
	for range r.Intn(more + 1) {
		depths = append(depths, 1+r.Intn(min(depths[len(depths)-1]+1, api.MaxDepth-1)))
	}
	return depths
}

// isOrIn tells whether i is d, or lies in it: whether d is on the way up from i.
func isOrIn(x api.Topo, i, d int) bool {
	for i >= 0 && i != d {
		i = x.Domains[i].Up
	}
	return i == d
}

// waitsOf is what the document says of Waits.
func waitsOf(x api.Topo, d int, queues [][]api.Ready) int {
	count := 0
	for i := range x.Domains {
		if d >= 0 && isOrIn(x, i, d) && i < len(queues) {
			count += len(queues[i])
		}
	}
	return count
}

// mayGo tells whether the task may go to lo: one by one of the workers.
func mayGo(x api.Topo, r api.Ready, lo int, online api.Set) bool {
	if r.Moved {
		return false
	}
	for n := range api.MaxCpu {
		if cpuset.Has(r.Mask, n) && cpuset.Has(online, n) && cpuset.Has(x.Domains[lo].Cpus, n) {
			return true
		}
	}
	return false
}

// planOf is what the document says of Plan: those that may go, of which all but the first are cut away.
func planOf(x api.Topo, d int, loads []int, queues [][]api.Ready, free []int, online api.Set) []api.Transfer {
	var kids []int
	for i, y := range x.Domains {
		if d >= 0 && y.Up == d {
			kids = append(kids, i)
		}
	}
	hi, lo, ok := load.Skew(loads, kids)
	if !ok {
		return nil
	}
	var l []api.Transfer
	for i := range x.Domains {
		if !isOrIn(x, i, hi) || i >= len(queues) {
			continue
		}
		for _, r := range queues[i] {
			if mayGo(x, r, lo, online) {
				l = append(l, api.Transfer{Task: r.Task, From: i, To: lo})
			}
		}
	}
	more := waitsOf(x, hi, queues) - waitsOf(x, lo, queues)
	for len(l) > 0 && (2*len(l) > more || lo >= len(free) || len(l) > free[lo]) {
		l = l[:len(l)-1]
	}
	return l
}

// copied is queues of their own, with some room behind them each.
func copied(queues [][]api.Ready) [][]api.Ready {
	var l [][]api.Ready
	for _, q := range queues {
		l = append(l, append(slices.Clone(q), api.Ready{Task: -7})[:len(q)])
	}
	return append(l, []api.Ready{{Task: -8}})[:len(l)]
}

// same tells whether the queues are the same, the room behind them included.
func same(a, b [][]api.Ready) bool {
	return len(a) == len(b) && slices.EqualFunc(a, b, func(x, y []api.Ready) bool {
		return slices.Equal(x[:len(x)+1], y[:len(y)+1])
	})
}

// check checks Plan and Waits, what follows, and that what was handed in stays what it was.
func check(t *testing.T, x api.Topo, d int, loads []int, queues [][]api.Ready, free []int, online api.Set) []api.Transfer { // P16.1 to P16.4
	t.Helper()
	ready, queues := copied(queues), copied(queues)
	domains, of, rooms := slices.Clone(x.Domains), slices.Clone(loads), slices.Clone(free)
	if got, want := plan.Waits(x, d, queues), waitsOf(x, d, queues); got != want {
		t.Fatalf("%s: waits of %d: %d, not %d", topo.Print(x), d, got, want)
	}
	got := plan.Plan(x, d, loads, queues, free, online)
	if want := planOf(x, d, loads, queues, free, online); !slices.Equal(got, want) {
		t.Fatalf("%s: plan for %d, loads %v, room %v: %v, not %v", topo.Print(x), d, loads, free, got, want)
	}
	if !slices.Equal(x.Domains, domains) || !slices.Equal(loads, of) || !slices.Equal(free, rooms) || !same(queues, ready) || queues[:len(queues)+1][len(queues)][0].Task != -8 {
		t.Fatal("what was handed in is another one", x, loads, free, queues)
	}
	checkFollows(t, x, d, loads, queues, free, online, got)
	return got
}

// checkFollows checks what follows for a plan in which each task has a number of its own.
func checkFollows(t *testing.T, x api.Topo, d int, loads []int, queues [][]api.Ready, free []int, online api.Set, got []api.Transfer) { // P16.3, P16.4
	t.Helper()
	if len(got) == 0 {
		return
	}
	hi, lo, ok := load.Skew(loads, topo.Kids(x, d))
	if !ok || len(got) > free[lo] || waitsOf(x, hi, queues)-len(got) < waitsOf(x, lo, queues)+len(got) {
		t.Fatal("too many", hi, lo, ok, got)
	}
	var tasks []int
	for _, y := range got {
		i := slices.IndexFunc(queues[y.From], func(r api.Ready) bool { return r.Task == y.Task })
		if i < 0 || !isOrIn(x, y.From, hi) || y.To != lo || !mayGo(x, queues[y.From][i], lo, online) {
			t.Fatal(y, "of", got)
		}
		if slices.Contains(tasks, y.Task) {
			t.Fatal("twice", y, "of", got)
		}
		tasks = append(tasks, y.Task)
	}
}

// tasks is so many ready tasks from a number on, on all workers.
func tasks(from, count int) []api.Ready {
	var l []api.Ready
	for i := range count {
		l = append(l, api.Ready{Task: from + i, Prio: i % 4, Stamp: 900 - i, Mask: all})
	}
	return l
}

// move is a transfer.
func move(task, from, to int) api.Transfer { return api.Transfer{Task: task, From: from, To: to} }

func TestOwnExample(t *testing.T) { // P16.1, P16.2
	x := must(t, small)
	queues := [][]api.Ready{nil, tasks(0, 5), nil}
	got := check(t, x, 0, []int{512, 512, 0}, queues, []int{8, 3, 8}, all)
	if want := []api.Transfer{move(0, 1, 2), move(1, 1, 2)}; !slices.Equal(got, want) {
		t.Errorf("%v, not %v", got, want)
	}
	if got := plan.Waits(x, 1, queues); got != 5 {
		t.Error(got)
	}
}

func TestWaits(t *testing.T) { // P16.1
	x := must(t, wide)
	queues := make([][]api.Ready, 15)
	for d := range queues { // sums of these tell which were added
		queues[d] = tasks(0, 1<<d)
		queues[d][0].Moved = true // it waits, too
		queues[d][len(queues[d])/2].Mask = api.Set{}
	}
	within := [][]int{{0, 1, 2, 3, 4, 5, 6, 7, 8, 9, 10, 11, 12}, {1, 2, 3, 4, 5, 6}, {2}, {3, 4, 5}, {4}, {5}, {6}, {7}, {8, 9, 10, 11}, {9, 10}, {10}, {11}, {12}, {}, {}}
	for n := range len(queues) + 1 {
		for d, l := range within {
			want := 0
			for _, i := range l {
				if i < n {
					want += 1 << i
				}
			}
			if got := plan.Waits(x, d, queues[:n]); got != want {
				t.Errorf("%d, of %d queues: %d, not %d", d, n, got, want)
			}
		}
		for _, d := range nones {
			if got := plan.Waits(x, d, queues[:n]); got != 0 {
				t.Errorf("%d, which is none's: %d", d, got)
			}
		}
	}
	if got := plan.Waits(must(t, "domain a cpus 0;"), 0, queues); got != 1 {
		t.Error("a leaf alone:", got)
	}
}

func TestHalf(t *testing.T) { // P16.2, P16.3: half, downwards, of what waits more
	x := must(t, small)
	for a := range 12 {
		for b := range 12 {
			want := 0
			if a > b {
				want = (a - b) / 2
			}
			got := check(t, x, 0, []int{0, 1, 0}, [][]api.Ready{tasks(50, 3), tasks(0, a), tasks(20, b)}, []int{9, 9, 99}, all)
			if len(got) != want {
				t.Errorf("%d and %d: %d, not %d", a, b, len(got), want)
			}
			got = check(t, x, 0, []int{9, -1, 0}, [][]api.Ready{tasks(50, 30), tasks(20, b), tasks(0, a)}, []int{0, 99, 0}, all) // the other way
			if len(got) != want || want > 0 && got[want-1] != (api.Transfer{Task: want - 1, From: 2, To: 1}) {
				t.Errorf("%d and %d: %v", a, b, got)
			}
		}
	}
}

func TestRoom(t *testing.T) { // P16.2, P16.3: no more than lo's queue has room for
	x := must(t, small)
	queues := [][]api.Ready{nil, tasks(0, 20), nil}
	for _, w := range []struct {
		free []int
		want int
	}{
		{nil, 0}, {[]int{5, 5}, 0}, {[]int{9, 9, 0}, 0}, {[]int{9, 9, 1}, 1}, {[]int{0, 0, 2}, 2}, {[]int{0, 0, 9}, 9}, {[]int{0, 0, 10}, 10}, {[]int{0, 0, 11}, 10},
		{[]int{9, 9, -1}, 0}, {[]int{9, 9, math.MinInt}, 0}, {[]int{9, 9, math.MaxInt}, 10}, {[]int{-9, -9, 3, 9}, 3}, {[]int{math.MinInt, math.MinInt, 1 << 40}, 10},
	} {
		got := check(t, x, 0, []int{0, 1, 0}, queues, w.free, all)
		if len(got) != w.want {
			t.Errorf("room %v: %d, not %d", w.free, len(got), w.want)
		}
	}
}

func TestRoomOfParts(t *testing.T) { // P16.2: the room is that of lo's own queue, not of what lies in it
	x := must(t, wide)
	queues := make([][]api.Ready, 13)
	queues[4] = tasks(0, 9)
	loads := []int{9, 9, 5, 5, 5, 5, 5, 7, 1, 5, 5, 5, 2}
	free := slices.Repeat([]int{9}, 13)
	free[8] = 1
	if got := check(t, x, 0, loads, queues, free, all); !slices.Equal(got, []api.Transfer{move(0, 4, 8)}) {
		t.Error(got)
	}
	free[8] = 0
	if got := check(t, x, 0, loads, queues, free, all); len(got) != 0 {
		t.Error(got)
	}
}

func TestWho(t *testing.T) { // P16.2, P16.4: those that weren't moved, and have a worker that is online and in lo
	x := must(t, "domain m { domain a cpus 0-1,1023; domain b cpus 2-3,64,1022; domain c cpus 4; }")
	online := cpuset.Of(0, 1, 2, 4, 64, 1023)
	for _, w := range []struct {
		mask  api.Set
		moved bool
		want  bool
	}{
		{cpuset.Of(2), false, true}, {cpuset.Of(2), true, false}, // in lo and online; moved
		{cpuset.Of(3), false, false}, {cpuset.Of(1022), false, false}, // in lo, but not online
		{cpuset.Of(0), false, false}, {cpuset.Of(4), false, false}, {cpuset.Of(1023), false, false}, // online, but not in lo
		{cpuset.Of(3, 0), false, false}, {cpuset.Of(1022, 1023, 4), false, false}, // one in lo, another one online
		{cpuset.Of(0, 2), false, true}, {cpuset.Of(3, 64), false, true}, {cpuset.Of(1023, 64), false, true},
		{cpuset.Of(5, 700), false, false}, {api.Set{}, false, false}, {all, false, true}, {all, true, false},
	} {
		r := api.Ready{Task: 77, Prio: 3, Stamp: -4, Mask: w.mask, Moved: w.moved}
		got := check(t, x, 0, []int{0, 2, 0, 1}, [][]api.Ready{nil, {{Task: 5}, r, {Task: 6}}}, []int{1, 1, 1, 1}, online)
		want := []api.Transfer{move(77, 1, 2)}
		if !w.want {
			want = nil
		}
		if !slices.Equal(got, want) {
			t.Errorf("%s, %t: %v", cpuset.Print(w.mask), w.moved, got)
		}
	}
	full := [][]api.Ready{nil, tasks(0, 9)}
	if got := check(t, x, 0, []int{0, 2, 0, 1}, full, []int{9, 9, 9}, api.Set{}); len(got) != 0 {
		t.Error("nobody online:", got)
	}
	for i := range full[1] {
		full[1][i].Moved = true
	}
	if got := check(t, x, 0, []int{0, 2, 0, 1}, full, []int{9, 9, 9}, online); len(got) != 0 {
		t.Error("all moved:", got)
	}
}

func TestThoseThatMayNotAreGoneBy(t *testing.T) { // P16.2: they count as waiting, but those behind them go
	x := must(t, small)
	queue := tasks(0, 8)
	queue[0].Moved, queue[2].Mask, queue[3].Moved = true, cpuset.Of(0), true
	got := check(t, x, 0, []int{0, 1, 0}, [][]api.Ready{nil, queue}, []int{8, 8, 8}, all)
	if want := []api.Transfer{move(1, 1, 2), move(4, 1, 2), move(5, 1, 2), move(6, 1, 2)}; !slices.Equal(got, want) {
		t.Errorf("%v, not %v", got, want)
	}
}

func TestOrder(t *testing.T) { // P16.2: by rising numbers of domains, each in its order
	x := must(t, wide)
	queues := make([][]api.Ready, 13)
	for d := range queues {
		queues[d] = []api.Ready{{Task: 100 - d, Mask: all}, {Task: 200 + d, Mask: all, Moved: true}, {Task: 300 - d, Prio: 3, Mask: all}}
	}
	free := slices.Repeat([]int{20}, 13)
	got := check(t, x, 0, []int{0, 5, 0, 0, 0, 0, 0, 4, 3, 0, 0, 0, 2}, queues, free, all)
	want := []api.Transfer{move(99, 1, 12), move(299, 1, 12), move(98, 2, 12), move(298, 2, 12), move(97, 3, 12), move(297, 3, 12), move(96, 4, 12)}
	if !slices.Equal(got, want) {
		t.Errorf("%v, not %v", got, want)
	}
	got = check(t, x, 0, []int{0, 2, 0, 0, 0, 0, 0, 1, 3, 0, 0, 0, 2}, queues, free, all)
	if want = []api.Transfer{move(92, 8, 7), move(292, 8, 7), move(91, 9, 7), move(291, 9, 7)}; !slices.Equal(got, want) {
		t.Errorf("%v, not %v", got, want)
	}
	got = check(t, x, 1, []int{9, 0, 3, 4, 0, 9, 4}, queues, free, all) // within a part
	if want = []api.Transfer{move(97, 3, 2), move(297, 3, 2), move(96, 4, 2)}; !slices.Equal(got, want) {
		t.Errorf("%v, not %v", got, want)
	}
}

func TestWhoIsBusyTheLoadsSay(t *testing.T) { // P16.2: not what waits
	x := must(t, small)
	for _, w := range []struct {
		loads []int
		want  int
	}{
		{nil, 0}, {[]int{9}, 0}, {[]int{0, 5, 5}, 0}, {[]int{0, -5, -5}, 0}, {[]int{0, 0, 5}, 0}, {[]int{0, 5}, 3}, {[]int{0, 0, -5}, 3}, {[]int{0, -5}, 0}, {[]int{9, 6, 5, 99}, 3}, {[]int{0, 5, 6}, 0},
		{[]int{0, math.MaxInt, math.MinInt}, 3}, {[]int{0, math.MinInt, math.MaxInt}, 0},
	} {
		got := check(t, x, 0, w.loads, [][]api.Ready{tasks(90, 9), tasks(0, 6), nil}, []int{9, 9, 9}, all)
		if len(got) != w.want {
			t.Errorf("loads %v: %d, not %d", w.loads, len(got), w.want)
		}
	}
	if got := check(t, x, 0, []int{0, 5, 0}, [][]api.Ready{tasks(90, 9), nil, nil}, []int{9, 9, 9}, all); len(got) != 0 { // P16.4
		t.Error("nothing waits:", got)
	}
}

func TestNones(t *testing.T) { // P16.1, P16.2: of numbers that are none's there is nothing, nor of parts that there aren't
	x := must(t, wide)
	queues := make([][]api.Ready, 13)
	for d := range queues {
		queues[d] = tasks(9*d, 9)
	}
	loads, free := []int{1, 2, 3, 4, 5, 6, 7, 8, 9, 10, 11, 12, 13}, slices.Repeat([]int{9}, 13)
	for _, d := range append(slices.Clone(nones), 13, 14, 2, 4, 5, 6, 7, 10, 11, 12, 9) { // the last ones: leaves, and one with a single part
		if got := check(t, x, d, loads, queues, free, all); len(got) != 0 {
			t.Errorf("%d: %v", d, got)
		}
	}
	check(t, x, 3, loads, queues[:4], free, all)
	check(t, x, 3, loads, nil, free, all)
	check(t, x, 0, loads, append(queues, tasks(900, 9), tasks(800, 9)), append(free, 5, 6), all)
}

func TestTasksNumbers(t *testing.T) { // P16.2: whatever numbers they have
	x := must(t, small)
	queue := []api.Ready{{Task: -1, Mask: all}, {Task: math.MaxInt, Mask: all}, {Task: math.MinInt, Mask: all, Prio: -9, Stamp: math.MinInt}, {Task: 0, Mask: all}, {Task: 1 << 40, Mask: all}, {Mask: all}}
	got := plan.Plan(x, 0, []int{0, 1}, [][]api.Ready{nil, queue}, []int{9, 9, 9}, all)
	if want := []api.Transfer{move(-1, 1, 2), move(math.MaxInt, 1, 2), move(math.MinInt, 1, 2)}; !slices.Equal(got, want) {
		t.Errorf("%v, not %v", got, want)
	}
}

// queuesAtRandom is queues for about so many domains, with a number of its own for each task.
func queuesAtRandom(r *rand.Rand, domains, cpus int) [][]api.Ready {
	var queues [][]api.Ready
	most := 1 + r.Intn(8)
	for range max(domains+r.Intn(4)-1, 0) {
		var queue []api.Ready
		for range r.Intn(most) {
			mask := all
			if r.Intn(2) == 0 {
				mask = cpuset.Of(r.Intn(cpus+1), r.Intn(cpus+1))
			}
			queue = append(queue, api.Ready{Prio: r.Intn(4), Stamp: r.Intn(99), Mask: mask, Moved: r.Intn(4) == 0})
		}
		queues = append(queues, queue)
	}
	numbers := r.Perm(1 << 12)
	for _, queue := range queues {
		for i := range queue {
			queue[i].Task, numbers = numbers[0], numbers[1:]
		}
	}
	return queues
}

// numbersAtRandom is numbers from least on, below least and most, for about so many domains.
func numbersAtRandom(r *rand.Rand, domains, least, most int) []int {
	l := make([]int, max(domains+r.Intn(4)-1, 0))
	for i := range l {
		l[i] = least + r.Intn(most)
	}
	return l
}

// checkAtRandom checks plans for each part of a tree.
func checkAtRandom(t *testing.T, r *rand.Rand, x api.Topo) {
	n := len(x.Domains)
	queues := queuesAtRandom(r, n, 2*n)
	online := all
	for range r.Intn(n + 1) {
		online = cpuset.Drop(online, r.Intn(2*n))
	}
	for d := -1; d <= n; d++ {
		check(t, x, d, numbersAtRandom(r, n, -1, 5), queues, numbersAtRandom(r, n, -1, 9), online)
	}
}

// checkTrees checks all trees of so many domains more at most, that begin with these depths.
func checkTrees(t *testing.T, r *rand.Rand, depths []int, most int) {
	x := tree(t, depths)
	for range 4 {
		checkAtRandom(t, r, x)
	}
	if most == 0 {
		return
	}
	for d := 1; d <= min(depths[len(depths)-1]+1, api.MaxDepth-1); d++ {
		checkTrees(t, r, append(slices.Clone(depths), d), most-1)
	}
}

func TestAllSmallTrees(t *testing.T) { // P16.1 to P16.4
	r := rand.New(rand.NewSource(16))
	checkTrees(t, r, []int{0}, 6)
	checkTrees(t, r, []int{0, 1, 2, 3, 4, 5, 6}, 3)
}

func TestTreesAtRandom(t *testing.T) { // P16.1 to P16.4
	r := rand.New(rand.NewSource(160))
	for range 200 {
		checkAtRandom(t, r, tree(t, depthsAtRandom(r, 30)))
	}
}

func TestGreatestTree(t *testing.T) { // P16.1, P16.2: all domains that there may be
	var text strings.Builder
	text.WriteString("domain m {")
	for i := range 1023 {
		text.WriteString(" domain s" + strconv.Itoa(i) + " { domain t" + strconv.Itoa(i) + " cpus " + strconv.Itoa(i) + " ; }")
	}
	text.WriteString(" domain u cpus 1023 ; }")
	x := must(t, text.String())
	if len(x.Domains) != api.MaxDomains {
		t.Fatal(len(x.Domains))
	}
	queues := make([][]api.Ready, api.MaxDomains)
	for d := range queues {
		queues[d] = tasks(d, 1)
	}
	queues[2] = tasks(5000, api.MaxRoom)
	loads, free := make([]int, api.MaxDomains), slices.Repeat([]int{api.MaxRoom}, api.MaxDomains)
	loads[1], loads[2047] = 7, -7
	if got := plan.Waits(x, 0, queues); got != api.MaxDomains-1+api.MaxRoom {
		t.Error(got)
	}
	got := check(t, x, 0, loads, queues, free, cpuset.Of(1023))
	if len(got) != api.MaxRoom/2 || got[0] != move(1, 1, 2047) || got[511] != move(5510, 2, 2047) {
		t.Error(len(got), got)
	}
	if got := check(t, x, 0, loads, queues, free, cpuset.Range(0, 1022)); len(got) != 0 {
		t.Error(got)
	}
}

func TestAnswersAreNew(t *testing.T) { // P16.2: an answer is nobody else's, and nothing is kept
	x := must(t, small)
	queues := [][]api.Ready{nil, tasks(0, 9), nil}
	loads, free := []int{0, 5, 0}, []int{9, 9, 9}
	first := plan.Plan(x, 0, loads, queues, free, all)
	want := slices.Clone(first)
	second := plan.Plan(x, 0, loads, queues, free, all)
	clear(first[:cap(first)])
	if !slices.Equal(second, want) {
		t.Error(second)
	}
	loads[1], free[2], queues[1] = -5, 0, nil
	if !slices.Equal(second, want) || len(plan.Plan(x, 0, loads, queues, free, all)) != 0 || plan.Waits(x, 0, queues) != 0 {
		t.Error(second)
	}
}

func TestTreesThatMayNotBe(t *testing.T) { // nothing is promised of these but an end
	r := rand.New(rand.NewSource(161))
	for range 3000 {
		x := api.Topo{Domains: make([]api.Domain, r.Intn(6))}
		for i := range x.Domains {
			x.Domains[i] = api.Domain{Up: r.Intn(9) - 2, Depth: r.Intn(9) - 2, Room: r.Intn(9) - 2, Cpus: cpuset.Of(r.Intn(4)), Leaf: r.Intn(2) == 0}
		}
		queues := queuesAtRandom(r, 6, 4)
		for d := -2; d < 8; d++ {
			plan.Waits(x, d, queues)
			plan.Plan(x, d, numbersAtRandom(r, 6, -1, 5), queues, numbersAtRandom(r, 6, -1, 9), all)
		}
		for _, d := range nones {
			plan.Plan(x, d, nil, queues, nil, all)
			if got := plan.Waits(x, d, queues); got != 0 {
				t.Fatal(x, d, got)
			}
		}
	}
}
