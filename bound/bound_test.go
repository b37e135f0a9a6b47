package bound_test

import (
	"math"
	"math/rand"
	"strconv"
	"strings"
	"testing"

	"pinfold/api"
	"pinfold/bound"
	"pinfold/cpuset"
	"pinfold/prog"
	"pinfold/sched"
	"pinfold/topo"
)

// tree is the tree that a description describes.
func tree(t *testing.T, text string) api.Topo {
	t.Helper()
	x, e, at := topo.Parse(text)
	if e != api.OK {
		t.Fatal(text, e, at)
	}
	return x
}

// code is a program of these instructions, with a comma between two.
func code(t *testing.T, prio int, text string) api.Prog {
	t.Helper()
	p, e, line := prog.Parse("prog " + strconv.Itoa(prio) + "\n\t" + strings.ReplaceAll(text, ", ", "\n\t") + "\n")
	if e != api.OK {
		t.Fatal(text, e, line)
	}
	return p
}

// machine is one of that tree and config.
func machine(t *testing.T, x api.Topo, c api.Config) *sched.Machine {
	t.Helper()
	m, e := sched.New(x, c)
	if e != api.OK {
		t.Fatal(e)
	}
	return m
}

// do lets a machine do entries, none of which it refuses.
func do(t *testing.T, m *sched.Machine, l ...api.Entry) {
	t.Helper()
	for _, e := range l {
		if x := m.Do(e); x != api.OK {
			t.Fatal(e, x)
		}
	}
}

const (
	flatOne = "domain m cpus 0;"
	pair    = "domain m { domain a cpus 0; domain b cpus 1; }"
	uneven  = "domain m { domain s { domain a cpus 0; domain r { domain b { domain c cpus 3; } } } domain d cpus 1; domain e { domain f cpus 2; } }"
	eight   = "domain a { domain b { domain c { domain d { domain e { domain f { domain g { domain h cpus 0; } } } } } } }"
)

func TestTree(t *testing.T) { // P24.1
	for _, x := range []struct {
		text          string
		deep, sockets int
	}{
		{flatOne, 1, 1},
		{pair, 2, 2},
		{uneven, 5, 3},
		{eight, 8, 1},
		{"domain m { domain s { domain a cpus 0; domain b cpus 1; domain c cpus 2; } }", 3, 1},
		{"domain m { domain s { domain a cpus 0; } domain t { domain b { domain b0 cpus 1; domain b1 cpus 2; } } }", 4, 2},
	} {
		if deep, sockets := bound.Deep(tree(t, x.text)), bound.Sockets(tree(t, x.text)); deep != x.deep || sockets != x.sockets {
			t.Errorf("%s: %d, %d", x.text, deep, sockets)
		}
	}
}

func TestDispatch(t *testing.T) { // P24.2
	for _, x := range []struct {
		text               string
		room, window, want int
	}{
		{pair, 3, 2, 80},
		{flatOne, 1, 1, 10},
		{flatOne, 0, 1, 10},
		{flatOne, -1, 0, 10},
		{flatOne, math.MinInt, math.MinInt, 10},
		{flatOne, 2, 1, 15},
		{flatOne, 1, 2, 20},
		{flatOne, 256, 1, 1285},
		{flatOne, 257, 1, 1285},
		{flatOne, 255, 1, 1280},
		{flatOne, math.MaxInt, 1, 1285},
		{flatOne, 1, 1 << 20, 10 << 20},
		{flatOne, 1, 1<<20 - 1, 10<<20 - 10},
		{flatOne, 1, 1<<20 + 1, 10 << 20},
		{uneven, 7, 3, 600},
		{eight, math.MaxInt, math.MaxInt, 10280 << 20},
	} {
		if got := bound.Dispatch(tree(t, x.text), x.room, x.window); got != x.want {
			t.Errorf("Dispatch(%s, %d, %d): %d, not %d", x.text, x.room, x.window, got, x.want)
		}
	}
}

func TestLock(t *testing.T) { // P24.2
	for _, x := range []struct {
		text        string
		ahead, want int
	}{
		{pair, 0, 8},
		{pair, 1, 16},
		{pair, -1, 8},
		{pair, math.MinInt, 8},
		{flatOne, 0, 4},
		{flatOne, 2, 12},
		{uneven, 4, 60},
		{uneven, 256, 3084},
		{uneven, 255, 3072},
		{uneven, 257, 3084},
		{uneven, math.MaxInt, 3084},
	} {
		if got := bound.Lock(tree(t, x.text), x.ahead); got != x.want {
			t.Errorf("Lock(%s, %d): %d, not %d", x.text, x.ahead, got, x.want)
		}
	}
}

// anyTree is a tree of up to so many domains, with a worker in each leaf.
func anyTree(t *testing.T, r *rand.Rand, most int) api.Topo {
	t.Helper()
	n, cpu := 0, 0
	var domain func(depth int) string
	domain = func(depth int) string {
		n++
		text := "domain d" + strconv.Itoa(n) + " queue " + strconv.Itoa(1+r.Intn(6))
		if depth == 7 || n >= most || depth > 0 && r.Intn(3) == 0 {
			cpu++
			return text + " cpus " + strconv.Itoa(cpu-1) + ";"
		}
		text += " {"
		for range 1 + r.Intn(3) {
			text += " " + domain(depth+1)
		}
		return text + " }"
	}
	return tree(t, domain(0))
}

func TestRandomTrees(t *testing.T) { // P24.1, P24.2: against the trees' fields
	for seed := range int64(500) {
		r := rand.New(rand.NewSource(seed))
		x := anyTree(t, r, 1+r.Intn(30))
		deep, sockets := 0, 0
		for _, d := range x.Domains {
			deep = max(deep, d.Depth+1)
			if d.Depth == 1 {
				sockets++
			}
		}
		sockets = max(sockets, 1)
		if bound.Deep(x) != deep || bound.Sockets(x) != sockets {
			t.Fatal(topo.Print(x), bound.Deep(x), bound.Sockets(x))
		}
		room, window, ahead := r.Intn(300), r.Intn(2000), r.Intn(300)
		if got, want := bound.Dispatch(x, room, window), max(window, 1)*5*deep*(min(max(room, 1), 256)+1); got != want {
			t.Fatal(topo.Print(x), room, window, got, want)
		}
		if got, want := bound.Lock(x, ahead), (min(ahead, 256)+1)*sockets*4; got != want {
			t.Fatal(topo.Print(x), ahead, got, want)
		}
	}
}

// aheadIs holds what Ahead answers of the tasks from 0 on against what is wanted: below 0 that they don't wait.
func aheadIs(t *testing.T, m *sched.Machine, x api.Topo, want ...int) {
	t.Helper()
	for id, n := range want {
		got, ok := bound.Ahead(m, x, id)
		if ok != (n >= 0) || got != max(n, 0) {
			t.Errorf("Ahead of %d: %d, %t, not %d", id, got, ok, n)
		}
	}
	for _, id := range []int{-1, len(want), math.MaxInt, math.MinInt} {
		if got, ok := bound.Ahead(m, x, id); got != 0 || ok {
			t.Errorf("Ahead of %d: %d, %t", id, got, ok)
		}
	}
}

func TestAhead(t *testing.T) { // P24.3
	x := tree(t, pair)
	m := machine(t, x, api.Config{Room: 8, Locks: 1, Masks: []api.Set{cpuset.Of(1)}, Progs: []api.Prog{code(t, 0, "set r1 2, yield, exit r1"), code(t, 2, "jump 0")}})
	start := func(prog, prio int) { do(t, m, api.Entry{Kind: api.EnNew, A: prog, B: -1, C: prio}) }
	step := func(cpu int) { do(t, m, api.Entry{Kind: api.EnStep, A: cpu}) }
	aheadIs(t, m, x)
	start(0, -1)
	aheadIs(t, m, x, 0)
	start(0, -1)
	start(0, 1)
	aheadIs(t, m, x, 1, 2, 0)
	start(1, -1)
	start(0, 1)
	aheadIs(t, m, x, 3, 4, 1, 0, 2)
	step(0) // task 3 runs
	aheadIs(t, m, x, 2, 3, 0, -1, 1)
	step(1) // task 2 runs
	aheadIs(t, m, x, 1, 2, -1, -1, 0)
	step(1)
	step(1) // it yields, and waits in b, behind task 4, which waits in m
	aheadIs(t, m, x, 2, 3, 1, -1, 0)
	do(t, m, api.Entry{Kind: api.EnMask, A: 4, B: 0}, api.Entry{Kind: api.EnOffline, A: 1}) // it is parked; task 2 goes to m
	aheadIs(t, m, x, 1, 2, 0, -1, -1)
	do(t, m, api.Entry{Kind: api.EnOnline, A: 1}) // a new stamp
	aheadIs(t, m, x, 2, 3, 0, -1, 1)
}

func TestAheadOfAll(t *testing.T) { // P24.3: queues of all domains count, whoever may run there
	x := tree(t, uneven)
	m := machine(t, x, api.Config{Room: 9, Masks: []api.Set{cpuset.Of(0), cpuset.Of(3), cpuset.Of(1), cpuset.Of(2)}, Progs: []api.Prog{code(t, 0, "yield, jump 0")}})
	for mask := range 4 {
		do(t, m, api.Entry{Kind: api.EnNew, B: mask, C: -1})
	}
	for _, cpu := range []int{2, 1, 3, 0} { // so that they wait in their leaves, the last one longest
		do(t, m, api.Entry{Kind: api.EnStep, A: cpu}, api.Entry{Kind: api.EnStep, A: cpu})
	}
	aheadIs(t, m, x, 3, 2, 1, 0)
	for id, d := range []int{2, 5, 6, 8} {
		if task, _ := m.Task(id); task.On != d {
			t.Error(task)
		}
	}
}

func TestNoMachine(t *testing.T) {
	aheadIs(t, nil, tree(t, pair))
	if n, ok := bound.Ahead(nil, api.Topo{}, 0); n != 0 || ok {
		t.Error(n, ok)
	}
}

func TestAnyArguments(t *testing.T) { // of trees that may not be too an answer comes
	m := machine(t, tree(t, pair), api.Config{Room: 1})
	for _, x := range []api.Topo{{}, {Domains: make([]api.Domain, 3)}, {Domains: []api.Domain{{Up: 1, Leaf: true}, {Up: 0, Leaf: true, Depth: -9}}}} {
		bound.Deep(x)
		bound.Sockets(x)
		bound.Dispatch(x, 3, 3)
		bound.Lock(x, 3)
		aheadIs(t, m, x)
	}
}
