package cost_test

import (
	"math"
	"math/rand"
	"slices"
	"strconv"
	"strings"
	"testing"

	"pinfold/api"
	"pinfold/cost"
	"pinfold/cpuset"
	"pinfold/event"
	"pinfold/fair"
	"pinfold/prog"
	"pinfold/runs"
	"pinfold/topo"
)

// row is the events of a text, with a comma between two; what a line lacks behind its name is 0.
func row(t *testing.T, text string) []api.Event {
	t.Helper()
	var l []api.Event
	for line := range strings.SplitSeq(text, ",") {
		line = strings.TrimSpace(line)
		if line == "" {
			continue
		}
		line += strings.Repeat(" 0", 4-strings.Count(line, " "))
		e, ok := event.Parse(line)
		if !ok {
			t.Fatal(line)
		}
		l = append(l, e)
	}
	return l
}

// tree is the tree that a description describes.
func tree(t *testing.T, text string) api.Topo {
	t.Helper()
	x, e, at := topo.Parse(text)
	if e != api.OK {
		t.Fatal(text, e, at)
	}
	return x
}

const (
	pair   = "domain m { domain a cpus 0; domain b cpus 1; }"
	single = "domain m cpus 0-3;"
	// wide has the domains m 0, s 1, a 2, r 3, b 4, d 5, e 6, f 7, g 8.
	wide = "domain m { domain s { domain a cpus 0; domain r { domain b cpus 1-2; } } domain d cpus 3; domain e { domain f cpus 4; domain g cpus 1000; } }"
)

func TestExample(t *testing.T) {
	x := tree(t, pair)
	l := row(t, "dispatch 0 0 1, ins 0 0, dispatch 0 1 1, ins 0 1, ins 0 1")
	if d, ok := cost.Memory(x, l, 0); d != 1 || !ok {
		t.Error(d, ok)
	}
	if n := cost.Cost(x, l, 0); n != 7 {
		t.Error(n)
	}
	if n := cost.Levels(x, l); !slices.Equal(n, []int{1, 1}) {
		t.Error(n)
	}
	if n := cost.Far(x, l); !slices.Equal(n, []int{0, 0, 1}) {
		t.Error(n)
	}
	if n := cost.Local(x, l); n != 500 {
		t.Error(n)
	}
	if n := cost.Crossed(x, l, 0); n != 1 {
		t.Error(n)
	}
}

func TestMemory(t *testing.T) { // P36.1
	x := tree(t, wide)
	l := row(t, "new 0, ready 0, dispatch 1 2, ins 0 4, dispatch 2 7, dispatch 2 -1, dispatch 2 3 -4, dispatch 0 1, dispatch 0 3, dispatch -1 1000, dispatch 5 999, stop 6 1")
	for task, want := range map[int]int{0: 4, 1: 4, 2: 5, -1: 8, 3: -1, 5: -1, 6: -1, math.MaxInt: -1} {
		if d, ok := cost.Memory(x, l, task); ok != (want >= 0) || d != max(want, 0) {
			t.Error(task, d, ok)
		}
	}
}

func TestCost(t *testing.T) { // P36.1
	x := tree(t, wide)
	for text, want := range map[string]int{
		"":                                0,
		"ins 0 1":                         0,
		"dispatch 0 1":                    0,
		"ins 0 1, dispatch 0 1, ins 0 1":  1,
		"dispatch 0 1, ins 0 1, ins 0 2":  2, // another worker of the leaf
		"dispatch 0 1, ins 0 0":           4,
		"dispatch 0 0, ins 0 1":           4,
		"dispatch 0 1, ins 0 3":           5,
		"dispatch 0 3, ins 0 1":           5,
		"dispatch 0 1, ins 0 4":           6,
		"dispatch 0 4, ins 0 1000":        3,
		"dispatch 0 4, ins 0 3":           4,
		"dispatch 0 1, ins 0 7, ins 0 -1": 0,
		"dispatch 0 7, ins 0 1":           0,
		"dispatch 0 7, dispatch 0 1, ins 0 1, ins 1 1, dispatch 1 4, dispatch 0 4, ins 0 4, ins 1 4, stop 0 4, out 0 4, ins 0 4": 13,
	} {
		l := row(t, text)
		if n := cost.Cost(x, l, 0); n != want {
			t.Errorf("Cost of %s: %d, not %d", text, n, want)
		}
	}
}

func TestTotal(t *testing.T) { // P36.1
	x := tree(t, wide)
	for text, want := range map[string]int{
		"":                               0,
		"tick -1, ready 3, ins 3 1":      0,
		"dispatch 0 1, ins 0 1, ins 0 0": 5,
		"dispatch 0 1, dispatch 7 4, ins 0 1, ins 7 4, ins 7 1000, ins 0 3, ins 2 1, ins 0 9": 10,
		"dispatch -5 3, ins -5 3": 1, // any number names one
	} {
		if n := cost.Total(x, row(t, text)); n != want {
			t.Errorf("Total of %s: %d, not %d", text, n, want)
		}
	}
}

// queues are dispatches from queues, with how deep they and the workers meet, and how far they are from each other (-1: the worker's own).
var queues = []struct{ cpu, from, level, far int }{
	{1, 4, 3, -1}, {2, 3, 2, -1}, {1, 1, 1, -1}, {1, 0, 0, -1}, {1, 2, 1, 3}, {1, 5, 0, 4}, {1, 6, 0, 4}, {1, 7, 0, 5},
	{0, 4, 1, 3}, {0, 3, 1, 2}, {0, 2, 2, -1}, {3, 0, 0, -1}, {3, 5, 1, -1}, {3, 1, 0, 2}, {3, 4, 0, 4}, {4, 6, 1, -1}, {4, 8, 1, 2}, {4, 1, 0, 3}, {1000, 3, 0, 4},
}

func TestQueues(t *testing.T) { // P36.2, P36.3: one by one, and all together
	x := tree(t, wide)
	var all []api.Event
	levels, far, own := make([]int, 4), make([]int, 7), 0
	for _, q := range queues {
		l := []api.Event{{Kind: api.EvDispatch, Task: 9, Cpu: q.cpu, A: q.from, B: 77}}
		all = append(all, l...)
		levels1, far1, local1 := make([]int, 4), make([]int, 7), 0
		levels1[q.level]++
		levels[q.level]++
		if q.far >= 0 {
			far1[q.far]++
			far[q.far]++
		} else {
			own++
			local1 = 1000
		}
		if n := cost.Levels(x, l); !slices.Equal(n, levels1) {
			t.Error("Levels", q, n)
		}
		if n := cost.Far(x, l); !slices.Equal(n, far1) {
			t.Error("Far", q, n)
		}
		if n := cost.Local(x, l); n != local1 {
			t.Error("Local", q, n)
		}
	}
	for _, e := range row(t, "ins 9 1 4, stop 9 1 4, ready 9 1 4, move 9 1 4, dispatch 9 1 9, dispatch 9 1 -1, dispatch 9 7 4, dispatch 9 -1 4, dispatch 9 1 9223372036854775807") { // what counts for nothing
		all = append([]api.Event{e}, all...)
	}
	if n := cost.Levels(x, all); !slices.Equal(n, levels) {
		t.Error(n)
	}
	if n := cost.Far(x, all); !slices.Equal(n, far) {
		t.Error(n)
	}
	if n := cost.Local(x, all); n != own*1000/len(queues) {
		t.Error(n)
	}
}

func TestHowManyLevels(t *testing.T) { // P36.2
	for text, deepest := range map[string]int{single: 0, pair: 1, wide: 3, "domain a { domain b { domain c { domain d { domain e { domain f { domain g { domain h cpus 0; } } } } } } }": 7} {
		x := tree(t, text)
		if n := cost.Levels(x, nil); !slices.Equal(n, make([]int, deepest+1)) {
			t.Error(text, n)
		}
		if n := cost.Far(x, nil); !slices.Equal(n, make([]int, 2*deepest+1)) {
			t.Error(text, n)
		}
		if n := cost.Local(x, nil); n != 1000 {
			t.Error(text, n)
		}
	}
	l := row(t, "dispatch 0 2 0, dispatch 1 4 0, dispatch 1 1 1")
	x := tree(t, single)
	if a, b, c := cost.Levels(x, l), cost.Far(x, l), cost.Local(x, l); !slices.Equal(a, []int{1}) || !slices.Equal(b, []int{0}) || c != 1000 {
		t.Error(a, b, c)
	}
}

func TestLocal(t *testing.T) { // P36.3: downwards
	x := tree(t, pair)
	for text, want := range map[string]int{
		"dispatch 0 0 9, dispatch 0 0 -1, dispatch 0 5 0": 1000,
		"dispatch 0 0 2": 0,
		"dispatch 0 0 1, dispatch 0 0 2, dispatch 1 1 1":     333,
		"dispatch 0 0 1, dispatch 0 1 0, dispatch 1 1 1":     666,
		"dispatch 0 0 1, dispatch 0 1 0, dispatch 1 1 2":     1000,
		"dispatch 0 0 1, dispatch 0 0 2, dispatch 0 7 1":     500,
		"dispatch 0 0 1, dispatch 0 0 2, dispatch 0 0 3":     500,
		"dispatch 0 0 1, dispatch 0 0 2, ins 0 0 1, ins 0 1": 500,
	} {
		if n := cost.Local(x, row(t, text)); n != want {
			t.Errorf("Local of %s: %d, not %d", text, n, want)
		}
	}
}

func TestCrossed(t *testing.T) { // P36.3
	x := tree(t, wide)
	for text, want := range map[string]int{
		"":             0,
		"dispatch 0 1": 0,
		"dispatch 0 4": 0,
		"dispatch 0 1, dispatch 0 2, dispatch 0 0, dispatch 0 1":                                 0, // one socket
		"dispatch 0 1, dispatch 0 3":                                                             1,
		"dispatch 0 3, dispatch 0 4, dispatch 0 1000, dispatch 0 3":                              2,
		"dispatch 0 1, dispatch 1 3, dispatch 0 2":                                               0,
		"dispatch 0 1, stop 0 1, ins 0 3, ready 0 3, dispatch 0 0 5":                             0,
		"dispatch 0 1, dispatch 0 7, dispatch 0 0, dispatch 0 -1, dispatch 0 3, dispatch 0 1024": 1,
		"dispatch 0 7, dispatch 0 1":                                                             0,
		"dispatch 0 1 -9, dispatch 0 3 77, dispatch 0 4, dispatch 0 1, dispatch 0 3":             4,
	} {
		if n := cost.Crossed(x, row(t, text), 0); n != want {
			t.Errorf("Crossed of %s: %d, not %d", text, n, want)
		}
	}
	if n := cost.Crossed(tree(t, single), row(t, "dispatch 0 1, dispatch 0 2, dispatch 0 3"), 0); n != 0 {
		t.Error(n)
	}
}

// The readings below are second ones of the chapter, by the trees' fields.

// leafOf is the leaf that has the worker; -1, if none has.
func leafOf(x api.Topo, cpu int) int {
	return slices.IndexFunc(x.Domains, func(d api.Domain) bool { return d.Leaf && slices.Contains(cpuset.List(d.Cpus), cpu) })
}

// meet is the deepest domain that a and b lie in, or are.
func meet(x api.Topo, a, b int) int {
	for a != b {
		if x.Domains[a].Depth >= x.Domains[b].Depth {
			a = x.Domains[a].Up
		} else {
			b = x.Domains[b].Up
		}
	}
	return a
}

func dist(x api.Topo, a, b int) int {
	return x.Domains[a].Depth + x.Domains[b].Depth - 2*x.Domains[meet(x, a, b)].Depth
}

// socket is the part of the whole in which a leaf lies; 0 of the whole.
func socket(x api.Topo, leaf int) int {
	for x.Domains[leaf].Depth > 1 {
		leaf = x.Domains[leaf].Up
	}
	return leaf
}

// told is what is told of a row.
type told struct {
	costs, crossed, memory map[int]int
	total, local           int
	levels, far            []int
}

// read is what is to be told of a row.
func read(x api.Topo, l []api.Event) told {
	deepest := 0
	for _, d := range x.Domains {
		deepest = max(deepest, d.Depth)
	}
	y := told{costs: map[int]int{}, crossed: map[int]int{}, memory: map[int]int{}, levels: make([]int, deepest+1), far: make([]int, 2*deepest+1)}
	last, all, own := map[int]int{}, 0, 0
	for _, e := range l {
		leaf := leafOf(x, e.Cpu)
		if leaf < 0 {
			continue
		}
		first, seen := y.memory[e.Task]
		if e.Kind == api.EvIns && seen {
			y.costs[e.Task] += dist(x, first, leaf) + 1
			y.total += dist(x, first, leaf) + 1
		}
		if e.Kind != api.EvDispatch {
			continue
		}
		if !seen {
			y.memory[e.Task] = leaf
		} else if last[e.Task] != socket(x, leaf) {
			y.crossed[e.Task]++
		}
		last[e.Task] = socket(x, leaf)
		if e.A < 0 || e.A >= len(x.Domains) {
			continue
		}
		all++
		y.levels[x.Domains[meet(x, leaf, e.A)].Depth]++
		if meet(x, leaf, e.A) == e.A {
			own++
		} else {
			y.far[dist(x, leaf, e.A)]++
		}
	}
	if y.local = 1000; all > 0 {
		y.local = own * 1000 / all
	}
	return y
}

// sum is all numbers together.
func sum(l []int) int {
	n := 0
	for _, x := range l {
		n += x
	}
	return n
}

// check holds all answers about a row against the second reading, and against the laws.
func check(t *testing.T, x api.Topo, l []api.Event) {
	t.Helper()
	given, want := slices.Clone(l), read(x, l)
	total := 0
	for task := -2; task < 20; task++ {
		first, seen := want.memory[task]
		if d, ok := cost.Memory(x, l, task); d != first || ok != seen {
			t.Fatalf("Memory of %d in %v: %d, %t, not %d", task, l, d, ok, first)
		}
		n := cost.Cost(x, l, task)
		if n != want.costs[task] {
			t.Fatalf("Cost of %d in %v: %d, not %d", task, l, n, want.costs[task])
		}
		total += n
		if got := cost.Crossed(x, l, task); got != want.crossed[task] {
			t.Fatalf("Crossed of %d in %v: %d, not %d", task, l, got, want.crossed[task])
		}
	}
	if n := cost.Total(x, l); n != want.total || n != total {
		t.Fatalf("Total of %v: %d, not %d or %d", l, n, want.total, total)
	}
	levels, far, local := cost.Levels(x, l), cost.Far(x, l), cost.Local(x, l)
	if !slices.Equal(levels, want.levels) || !slices.Equal(far, want.far) || local != want.local {
		t.Fatalf("%v: %v, %v, %d", l, levels, far, local)
	}
	if all := sum(levels); all > 0 && (all-sum(far))*1000/all != local { // P36.5
		t.Fatalf("%v: %v, %v, %d", l, levels, far, local)
	}
	if !slices.Equal(l, given) {
		t.Fatal("the row is changed")
	}
}

// anyTree is a tree with up to two workers in each leaf.
func anyTree(t *testing.T, r *rand.Rand) api.Topo {
	t.Helper()
	n, cpu, most := 0, 0, 1+r.Intn(12)
	var domain func(depth int) string
	domain = func(depth int) string {
		n++
		text := "domain d" + strconv.Itoa(n)
		if depth == 7 || n >= most || depth > 0 && r.Intn(3) == 0 {
			first := cpu + r.Intn(2) // some numbers are no workers'
			cpu = first + 1 + r.Intn(2)
			return text + " cpus " + strconv.Itoa(first) + "-" + strconv.Itoa(cpu-1) + ";"
		}
		text += " {"
		for range 1 + r.Intn(3) {
			text += " " + domain(depth+1)
		}
		return text + " }"
	}
	return tree(t, domain(0))
}

func TestRandomRows(t *testing.T) { // P36.1 to P36.3, P36.5
	often := []int{api.EvDispatch, api.EvDispatch, api.EvIns, api.EvIns, api.EvStop, api.EvReady, 0}
	for seed := range int64(4000) {
		r := rand.New(rand.NewSource(seed))
		x := anyTree(t, r)
		var l []api.Event
		for range r.Intn(40) {
			l = append(l, api.Event{Kind: often[r.Intn(len(often))], Task: r.Intn(6) - 2, Cpu: r.Intn(10) - 1, A: r.Intn(len(x.Domains)+3) - 1})
		}
		check(t, x, l)
	}
}

func TestMachines(t *testing.T) { // P36.1 to P36.5
	var progs []api.Prog
	for _, text := range []string{"set r1 1, yield, jump 0", "set r1 3, set r2 2, sleep r2, add r2 r1, out r2, exit r1"} {
		p, e, line := prog.Parse("prog 0\n\t" + strings.ReplaceAll(text, ", ", "\n\t") + "\n")
		if e != api.OK {
			t.Fatal(text, e, line)
		}
		progs = append(progs, p)
	}
	dear, cheap := 0, 0
	for seed := range uint64(60) {
		x := tree(t, []string{single, pair, wide}[seed%3])
		cpus := cpuset.List(x.Domains[0].Cpus)
		c := api.Config{Room: 20, Progs: progs}
		l := fair.Script(seed, cpus, 2, 300)
		for i := range l {
			if l[i].Kind == api.EnTick && i%2 == 0 { // so that tasks go far
				l[i] = api.Entry{Kind: api.EnBalance, A: i % len(x.Domains)}
			}
		}
		events := runs.Run(topo.Print(x), c, l).Events
		check(t, x, events)
		for task := range 20 {
			leaves, first := map[int]int{}, slices.IndexFunc(events, func(e api.Event) bool { return e.Kind == api.EvDispatch && e.Task == task })
			for _, e := range event.Of(event.Task(events, task), api.EvDispatch) {
				leaves[leafOf(x, e.Cpu)]++
			}
			ins := event.Count(events[max(first, 0):], api.EvIns, task)
			n := cost.Cost(x, events, task)
			if n < ins || len(leaves) <= 1 && n != ins { // P36.4
				t.Fatal(seed, task, n, ins)
			}
			if n > ins {
				dear++
			} else if n > 0 {
				cheap++
			}
		}
	}
	if dear < 20 || cheap < 20 {
		t.Error("tasks hardly go, or hardly stay:", dear, cheap)
	}
}

func TestAnyArguments(t *testing.T) { // of trees that may not be too an answer comes
	l := row(t, "dispatch 0 3 1, ins 0 3, dispatch 0 5 0, ins 0 5, dispatch 0 5 2, ins 0 3, dispatch 0 -9223372036854775808 9223372036854775807, dispatch 0 3 2")
	for _, x := range []api.Topo{
		{},
		{Domains: make([]api.Domain, 3)},
		{Domains: []api.Domain{{Up: -1, Leaf: true, Depth: math.MaxInt, Cpus: cpuset.Of(3)}, {Up: -1, Leaf: true, Depth: math.MinInt, Cpus: cpuset.Of(5)}}},
		{Domains: []api.Domain{{Up: 1, Leaf: true, Cpus: cpuset.Of(3)}, {Up: 2, Leaf: true, Cpus: cpuset.Of(5)}, {Up: 1, Depth: -4}}},
		{Domains: []api.Domain{{Up: -1}, {Up: 0, Leaf: true, Cpus: cpuset.Of(3), Depth: 9}, {Up: 1, Leaf: true, Cpus: cpuset.Of(5), Depth: 1}}},
	} {
		for _, task := range []int{0, -1, math.MaxInt} {
			cost.Memory(x, l, task)
			cost.Cost(x, l, task)
			cost.Crossed(x, l, task)
		}
		cost.Total(x, l)
		cost.Levels(x, l)
		cost.Far(x, l)
		cost.Local(x, l)
	}
}
