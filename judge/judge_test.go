package judge_test

import (
	"math"
	"slices"
	"strings"
	"testing"

	"pinfold/api"
	"pinfold/cpuset"
	"pinfold/event"
	"pinfold/judge"
	"pinfold/prog"
	"pinfold/topo"
)

// row is the events of a text, with a comma between two; what a line lacks behind its name is 0.
func row(t *testing.T, text string) []api.Event {
	t.Helper()
	var l []api.Event
	for line := range strings.SplitSeq(text, ",") {
		line = strings.TrimSpace(line)
		if line == "" {
			continue
		}
		line += strings.Repeat(" 0", 4-strings.Count(line, " "))
		e, ok := event.Parse(line)
		if !ok {
			t.Fatal(line)
		}
		l = append(l, e)
	}
	return l
}

// tree is the tree that a description describes.
func tree(t *testing.T, text string) api.Topo {
	t.Helper()
	x, e, at := topo.Parse(text)
	if e != api.OK {
		t.Fatal(text, e, at)
	}
	return x
}

// code is a program of these instructions, with a comma between two.
func code(t *testing.T, text string) api.Prog {
	t.Helper()
	p, e, line := prog.Parse("prog 0\n\t" + strings.ReplaceAll(text, ", ", "\n\t") + "\n")
	if e != api.OK {
		t.Fatal(text, e, line)
	}
	return p
}

// judged holds what find answers of a row, and of all that it begins with (P23.6), against the place that is wanted.
func judged(t *testing.T, name string, l []api.Event, want int, find func(l []api.Event) int) {
	t.Helper()
	given := slices.Clone(l)
	for n := range len(l) + 1 {
		w := want
		if n <= want {
			w = -1
		}
		if got := find(l[:n:n]); got != w {
			t.Errorf("%s of %s: %d, not %d", name, shown(l[:n]), got, w)
		}
	}
	if !slices.Equal(l, given) {
		t.Errorf("%s changed its row", name)
	}
}

// shown is a row as row reads it.
func shown(l []api.Event) string {
	return strings.ReplaceAll(strings.TrimSuffix(event.PrintAll(l), "\n"), "\n", ", ")
}

// rowAt is a row of which something is wrong at a place.
type rowAt struct {
	text string
	at   int
}

func TestExamples(t *testing.T) {
	judged(t, "Alone", row(t, "dispatch 0 1, dispatch 2 1"), 1, judge.Alone)
	judged(t, "Owners", row(t, "own 0, own 0"), 1, judge.Owners)
}

func TestAlone(t *testing.T) { // P23.1
	for _, x := range []rowAt{
		{"", -1},
		{"dispatch 0 1, ins 0 1, ins 0 1, stop 0 1", -1},
		{"dispatch 0 1, dispatch 1 0, ins 1 0, ins 0 1, stop 0 1, stop 1 0", -1},
		{"dispatch 0 1, dispatch 0 2", 1},
		{"dispatch 0 1, dispatch 0 1", 1},
		{"dispatch 0 1, dispatch 2 1", 1},
		{"dispatch 0 1, stop 0 1, dispatch 2 1, stop 2 1, dispatch 0 1, dispatch 2 0, dispatch 3 1", 6},
		{"dispatch 0 1, stop 0 1, dispatch 0 2, ins 0 2, stop 0 2, dispatch 0 2, ins 0 1", 6},
		{"stop 0 1", 0},
		{"ins 0 1", 0},
		{"ins 0", 0},
		{"stop 0", 0},
		{"dispatch 0 1, ins 0 0", 1},
		{"dispatch 0 1, ins 1 1", 1},
		{"dispatch 0 1, stop 0 0", 1},
		{"dispatch 0 1, stop 1 1", 1},
		{"dispatch 0 1, dispatch 1 2, ins 0 2", 2},
		{"dispatch 0 1, dispatch 1 2, stop 1 1", 2},
		{"dispatch 0 1, stop 0 1, ins 0 1", 2},
		{"dispatch 0 1, stop 0 1, stop 0 1", 2},
		{"dispatch 0 1, exit 0 -1, ready 0, wait 0 1 3, park 0, hold 0, move 0, own 0, out 0 7, reg 0, offline -1 1, new 0, ins 0 1, dispatch 0 1", 13},
		{"dispatch -1 -1, ins -1 -1, stop -1 -1, dispatch 7000 9223372036854775807, ins 7000 9223372036854775807, ins 7000 -9223372036854775808", 5},
		{"out 0 1, wait 0 1, new 0 1, own 0 1, exit 0 1, tick 0 1, idle 0 1, mask 0 1, fail 0 1, bubble 0 1, free 0 1, reg 0 1, online 0 1", -1},
	} {
		judged(t, "Alone", row(t, x.text), x.at, judge.Alone)
	}
}

func TestOnline(t *testing.T) { // P23.1
	few := cpuset.Of(0, 2)
	for _, x := range []rowAt{
		{"", -1},
		{"dispatch 7 0, ins 7 0, dispatch 7 2, ins 7 2", -1},
		{"dispatch 0 1", 0},
		{"ins 0 1", 0},
		{"online -1 1, dispatch 0 1, ins 0 1, offline -1 1, ins 0 1", 4},
		{"offline -1 0, dispatch 1 2, dispatch 0 0", 2},
		{"offline -1 0, online -1 0, online -1 0, dispatch 0 0, offline 0 0, offline 0 0, ins 0 0", 6},
		{"offline -1 0, stop 0 0, out 0 0, ready 0 0, exit 0 0, new 0 0, idle -1 0, wait 0 0 3", -1},
		{"dispatch 0 -1", 0},
		{"ins 0 1024", 0},
		{"online -1 1024, online -1 -1, online -1 1023, ins 0 1023, dispatch 0 1024", 4},
		{"online -1 -1, dispatch 0 -1", 1},
		{"ins 0 9223372036854775807", 0},
	} {
		judged(t, "Online", row(t, x.text), x.at, func(l []api.Event) int { return judge.Online(few, l) })
	}
	judged(t, "Online", row(t, "ins 0 0"), 0, func(l []api.Event) int { return judge.Online(api.Set{}, l) })
}

func TestOnce(t *testing.T) { // P23.1
	for _, x := range []rowAt{
		{"", -1},
		{"new 0, dispatch 0, ins 0, stop 0, exit 0", -1},
		{"exit 0, exit 1, ready 2, exit 0", 3},
		{"exit 0, new 1, dispatch 1, ins 1, stop 1, own 1, wait 1, reg 1, out 1, ready 1", -1},
		{"exit 0, free 0, mask 0, free 0 0 1, reg 0", 4},
		{"exit 5 0 -7, free 5, own 6, ready 6, exit 6, ins 5, ins 6", 5},
		{"exit -1, tick -1, fail -1, idle -1, bubble -1, online -1, offline -1", -1},
		{"exit -1, out -1", 1},
	} {
		judged(t, "Once", row(t, x.text), x.at, judge.Once)
	}
	these := []int{api.EvNew, api.EvDispatch, api.EvIns, api.EvStop, api.EvReady, api.EvPark, api.EvHold, api.EvMove, api.EvOwn, api.EvWait, api.EvOut, api.EvExit, api.EvReg}
	for kind := -1; kind <= api.EvReg+2; kind++ {
		want := -1
		if slices.Contains(these, kind) {
			want = 1
		}
		judged(t, "Once", []api.Event{{Kind: api.EvExit, Task: 3, Cpu: -1}, {Kind: kind, Task: 3}}, want, judge.Once)
		judged(t, "Once", []api.Event{{Kind: api.EvExit, Task: 3, Cpu: -1}, {Kind: kind, Task: 0, Cpu: 3, A: 3, B: 3}}, -1, judge.Once)
	}
}

func TestOwners(t *testing.T) { // P23.2
	for _, x := range []rowAt{
		{"", -1},
		{"own 0 -1 1, free 0 -1 1, own 1 -1 1, free 1 -1 1, own 0 -1 1", -1},
		{"own 0 -1 1, own 0 -1 0, free 0 -1 1, own 1 -1 1, free 0 -1 0, free 1 -1 1", -1},
		{"own 0 -1 1, own 1 -1 1", 1},
		{"own 0 -1 1, own 0 -1 1", 1},
		{"own 0 -1 1, free 1 -1 1", 1},
		{"own 0 -1 1, own 1 -1 2, free 0 -1 2", 2},
		{"free 0", 0},
		{"free 0 -1 1, own 0 -1 1", 0},
		{"own 0 -1 1, free 0 -1 1, free 0 -1 1", 2},
		{"own 0 -1 1, exit 0, wait 1 0 4 1, stop 0, own 1 -1 1", 4},
		{"own -1 0 -3, free -1 0 -3, own -1 0 -3, own 7 0 9223372036854775807, own 7 0 -3", 4},
		{"own 3 1 0 1, free 3 2 0 2, own 3 3 0 3", -1},
	} {
		judged(t, "Owners", row(t, x.text), x.at, judge.Owners)
	}
}

const two = "domain m { domain a { domain a0 cpus 0-3; domain a1 cpus 4; } domain b cpus 5-6; }" // whose sockets are 1 and 4

func TestBudget(t *testing.T) { // P23.3
	const (
		three  = "own 0 -1 0 1, wait 1 0 4, wait 2 1 4, wait 3 4 4, wait 4 3 4, wait 5 2 4, own 1 -1 0 1, own 2 -1 0 1, own 3 -1 0 1" // three stay in socket 1
		passed = three + ", own 4 -1 0 1"
	)
	for _, x := range []rowAt{
		{"", -1},
		{three, -1},
		{passed, -1}, // nobody waits elsewhere
		{passed + ", wait 9 5 4, own 5 -1 0 1", 11},
		{"wait 9 5 4, " + passed, 10},
		{"wait 9 6 4, " + passed, 10},
		{three + ", wait 9 5 4, own 4 -1 0 1", 10},
		{three + ", wait 9 2 4, own 4 -1 0 1", -1},                           // another one of the same socket waits
		{three + ", wait 9 5 4 1, own 4 -1 0 1", -1},                         // for another lock
		{three + ", wait 9 5 3, wait 9 5 5, own 4 -1 0 1", -1},               // for none
		{three + ", wait 9 5 4, own 9 -1 0 4, wait 9 5 4, own 4 -1 0 1", -1}, // it came elsewhere
		{three + ", wait 9 5 4, own 8 -1 0 1, own 4 -1 0 1, own 5 -1 0 1", -1},
		{three + ", own 8 -1 0 1, wait 9 5 4, own 4 -1 0 1, own 5 -1 0 1, wait 1 0 4, own 1 -1 0 1, wait 1 0 4, own 1 -1 0 1", 16}, // counting began anew
		{three + ", wait 9 5 4 7, own 9 -1 7 4, wait 9 5 4, free 3, own 4 -1 0 1", 13},
		{three + ", wait 9 5 4, free 3 -1 0, stop 3 0, wait 9 5 3, exit 9, own 4 -1 0 1", 14},
		{three + ", wait 9 5 4, wait 9 0 4, own 4 -1 0 1", -1}, // of several waits the last one
		{three + ", wait 9 0 4, wait 9 5 4, own 4 -1 0 1", 11},
		{three + ", wait 9 5 4, wait 9 0 4 1, own 4 -1 0 1", 11}, // each lock's own
		{three + ", wait 9 7 4, own 4 -1 0 1", 10},               // a worker that isn't the machine's: socket 0
		{three + ", wait 9 -1 4, own 4 -1 0 1", 10},
		{three + ", wait 4 5 4, own 4 -1 0 1", -1},               // who has it now waits no more
		{three + ", wait 9 5 4, own 4 -1 1 1, own 5 -1 0 1", 11}, // another lock's own
		{"own 0 -1 0, wait 1 7 4, wait 2 -1 4, wait 3 1024 4, wait 4 9 4, own 1, own 2, own 3, own 4", -1},
		{"own 0 -1 0, wait 1 7 4, wait 2 -1 4, wait 3 1024 4, wait 4 9 4, wait 5 0 4, own 1, own 2, own 3, own 4", 9},
		{"wait 0 0 4, wait 1 0 4, wait 2 0 4, wait 3 0 4, wait 4 0 4, wait 9 5 4, own 0 -1 0 1, own 1 -1 0 1, own 2 -1 0 1, own 3 -1 0 1, own 4 -1 0 1", 10},        // the first own stays nowhere
		{"wait 0 0 4, wait 1 0 4, wait 2 0 4, wait 3 0 4, wait 9 5 4, own 0 -1 0 -1, own 1 -1 0 -1, own 2 -1 0 -1, own 3 -1 0 -1", 8},                               // but with -1
		{"own 0 -1 0 -1, wait 1 0 4, wait 2 0 4, wait 3 0 4, wait 9 5 4, own 1 -1 0 -1, own 2 -1 0 -1, own 3 -1 0 -1", -1},                                          // nor did this one wait
		{"wait 0 0 4, wait 1 0 4, wait 2 0 4, wait 3 0 4, own 0 -1 0 0, own 1 -1 0 0, own 2 -1 0 0, own 3 -1 0 0", -1},                                              // 0 is a socket like others
		{"own 0 -1 0 77, wait 1 0 4, wait 2 0 4, wait 3 0 4, wait 4 0 4, wait 5 0 4, own 1 -1 0 77, own 2 -1 0 77, own 3 -1 0 77, own 4 -1 0 77", 9},                // what an own says is believed
		{"own 0 -1 -5 4, wait 1 5 4 -5, wait 2 5 4 -5, wait 3 5 4 -5, wait 4 6 4 -5, wait 5 0 4 -5, own 1 -1 -5 4, own 2 -1 -5 4, own 3 -1 -5 4, own 4 -1 -5 4", 9}, // any lock
		{"own 0 -1 0 1, wait 1 0 4, wait 9 5 4, own 1 -1 0 1, own 1 -1 0 1, own 1 -1 0 1, own 1 -1 0 1, own 1 -1 0 1", -1},                                          // a wait is for one own
		{"own 0 -1 0 1, wait 9 5 4, wait 0 0 4, own 0 -1 0 1, wait 0 0 4, own 0 -1 0 1, wait 0 0 4, own 0 -1 0 1, wait 0 0 4, own 0 -1 0 1", 9},
	} {
		judged(t, "Budget", row(t, x.text), x.at, func(l []api.Event) int { return judge.Budget(tree(t, two), l) })
	}
}

func TestBudgetOfOneDomain(t *testing.T) { // P23.3: the socket is the whole, 0
	l := row(t, "own 0 -1 0 0, wait 1 0 4, wait 2 0 4, wait 3 0 4, wait 4 0 4, wait 5 0 4, wait 6 9 4, own 1, own 2, own 3, own 4, own 5")
	judged(t, "Budget", l, -1, func(l []api.Event) int { return judge.Budget(tree(t, "domain m cpus 0-3;"), l) })
}

// busyConfig is of programs that take locks, and give them.
func busyConfig(t *testing.T) api.Config {
	return api.Config{Room: 9, Locks: 2, Progs: []api.Prog{code(t, "set r1 5, out r1, exit r1"), code(t, "lock r0 0, unlock r0 0, jump 0"), {}, {Code: []api.Ins{{Op: api.InsJump, N: 9}}}}}
}

func TestJudge(t *testing.T) { // P23.4
	x, c := tree(t, two), busyConfig(t)
	const start = "new 0, ready 0, dispatch 0, ins 0 0 1, ins 0 0 13 1, out 0 0 5, ins 0 0 14 2, stop 0 0 7, exit 0 -1 5" // the whole's second example
	for _, y := range []struct {
		text      string
		fault, at int
	}{
		{"", api.FaultNone, -1},
		{start, api.FaultNone, -1},
		{start + ", free 0", api.FaultFlat, 9},
		{start + ", own 0, free 0", api.FaultOnce, 9},
		{start + ", own 0, free 0, ready 0", api.FaultFlat, 11},
		{"new 0, ready 0, dispatch 0, dispatch 0", api.FaultFlat, 3},
		{"new 0, ready 0, new 1, ready 1, dispatch 0, dispatch 1", api.FaultFlat, 5},
		{"new 0, ready 0, dispatch 0 7", api.FaultFlat, 2},
		{"new 0, ready 0, offline -1 6, dispatch 0 6", api.FaultFlat, 3},
		{"new 0, ready 0, dispatch 0, ins 0 0 2", api.FaultFlat, 3},
		{"new 0, own 0 -1 1, own 0 -1 1", api.FaultFlat, 2},
		{"new 0, own 0 -1 2", api.FaultFlat, 1},
		{"new 0, own 0 -1 -1", api.FaultFlat, 1},
		{"new 0 -1 4", api.FaultFlat, 0},
		{"new 0 -1 2, ready 0, dispatch 0, ins 0", api.FaultFlat, 3},
		{"new 0 -1 3, ready 0, dispatch 0, ins 0 0 4", api.FaultNone, -1},
		{"new 0, exit 0, own 0 -1 0 1, free 0, own 0 -1 0 9", api.FaultOnce, 2},
		{"tick -1 -1 1, tick -1 -1 2, tick -1 -1 4", api.FaultFlat, 2},
		{"fail 0 0 0 0, idle 9, mask 9, bubble 9 9 9 9", api.FaultNone, -1},
	} {
		l := row(t, y.text)
		given := slices.Clone(l)
		if fault, at := judge.Judge(x, c, l); fault != y.fault || at != y.at || !slices.Equal(l, given) {
			t.Errorf("%s: %d, %d, not %d, %d", y.text, fault, at, y.fault, y.at)
		}
	}
}

// staying is a row by which a lock stays in socket 1 four times, though task 5 waits elsewhere: each event may happen.
func staying(t *testing.T) []api.Event {
	text := ""
	for task := range 6 {
		text += strings.ReplaceAll("new N, wait N C 4, ", "N", string(byte('0'+task)))
		text = strings.ReplaceAll(text, "C", string(byte('0'+task))) // task 5's worker is of the other socket
	}
	text += "new 6, own 6 -1 0 1, free 6"
	for task := range 4 {
		text += strings.ReplaceAll(", own N -1 0 1, free N", "N", string(byte('0'+task)))
	}
	return row(t, text)
}

func TestJudgeOrder(t *testing.T) { // P23.4: the fault that is named first, wherever it is
	x, c := tree(t, two), busyConfig(t)
	l := staying(t)
	const four = 21 // its place
	if fault, at := judge.Judge(x, c, l); fault != api.FaultBudget || at != four {
		t.Error(fault, at)
	}
	gone := append(slices.Clone(l), row(t, "exit 6, own 6")...)
	if fault, at := judge.Judge(x, c, gone); fault != api.FaultOnce || at != len(l)+1 || judge.Budget(x, gone) != four {
		t.Error(fault, at)
	}
	wrong := append(gone, row(t, "stop 7, ins 0 9")...)
	if fault, at := judge.Judge(x, c, wrong); fault != api.FaultFlat || at != len(gone) || judge.Once(wrong) != len(l)+1 {
		t.Error(fault, at)
	}
}

func TestOthersFaultsAreFlats(t *testing.T) { // P23.4: what Alone, Online and Owners find may not happen to a machine without queues, either
	x, c := tree(t, two), busyConfig(t)
	all := x.Domains[0].Cpus
	for _, text := range []string{"new 0, ready 0, dispatch 0, stop 0, ins 0 0 1", "new 0, ready 0, dispatch 0 8", "new 0, own 0, own 0", "new 0, new 1, own 0, free 1"} {
		l := row(t, text)
		own := slices.Max([]int{judge.Alone(l), judge.Online(all, l), judge.Owners(l)})
		if fault, at := judge.Judge(x, c, l); own < 0 || fault != api.FaultFlat || at != own {
			t.Error(text, fault, at, own)
		}
	}
}

func TestAnyArguments(t *testing.T) { // rule 1, and that of trees that may not be too an answer comes
	l := row(t, "new 0, ready 0, wait 0 3 4, wait 1 5 4, own 0 -1 0 -1, dispatch 0 -9223372036854775808, own 1 -1 0 9223372036854775807")
	trees := []api.Topo{{}, {Domains: []api.Domain{{}}}, {Domains: []api.Domain{{Leaf: true, Up: 9, Depth: -7, Cpus: cpuset.Of(3, 5)}, {Up: 0}}}, {Domains: []api.Domain{{Up: 1, Cpus: cpuset.Of(3)}, {Up: 0, Leaf: true, Cpus: cpuset.Of(3)}}}}
	for _, x := range trees {
		for _, c := range []api.Config{{}, {Locks: -3}, {Locks: math.MaxInt}, {Progs: make([]api.Prog, 3)}} {
			judge.Judge(x, c, l)
			judge.Budget(x, l)
		}
	}
	if fault, at := judge.Judge(api.Topo{}, api.Config{}, nil); fault != api.FaultNone || at != -1 {
		t.Error(fault, at)
	}
	if fault, at := judge.Judge(api.Topo{}, api.Config{Progs: make([]api.Prog, 1)}, row(t, "new 0, ready 0, offline -1 0")); fault != api.FaultFlat || at != 2 {
		t.Error(fault, at)
	}
}
