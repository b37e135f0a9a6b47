package flat_test

import (
	"math"
	"math/rand"
	"slices"
	"testing"

	"pinfold/api"
	"pinfold/cpuset"
	"pinfold/exec"
	"pinfold/flat"
)

// strange are numbers that are no task's, worker's, lock's, program's, place's or register's.
var strange = []int{-1, -2, -64, api.MaxCpu, api.MaxCpu + 1, 1 << 31, 1 << 32, 1 << 40, math.MinInt32, math.MinInt, math.MinInt + 1, math.MaxInt}

// progs are programs that tests' tasks have; the last but one may not be, the last has no place.
var progs = []api.Prog{
	{Code: []api.Ins{{Op: api.InsSet, A: 1, N: 5}, {Op: api.InsOut, A: 1}, {Op: api.InsAdd, A: 0, B: 1}, {Op: api.InsJnz, N: 1}, {Op: api.InsExit, A: 1}}},
	{Prio: 3, Code: []api.Ins{{Op: api.InsJump}}},
	{Code: []api.Ins{{Op: api.InsSet, N: 7}, {Op: 0}, {Op: api.InsExit, A: 9}}},
	{},
}

// task is one in that state.
func task(state, on int) api.FlatTask { return api.FlatTask{State: state, On: on} }

// of is a machine with these tasks, with the workers 0 to 3 and 1023, and three locks of which task 0 has the last.
func of(tasks ...api.FlatTask) api.Flat {
	return api.Flat{Tasks: tasks, Online: cpuset.Of(0, 1, 2, 3, 1023), Owners: []int{-1, -1, 0}, Time: 5}
}

// clone is f with lists of its own.
func clone(f api.Flat) api.Flat {
	f.Tasks, f.Owners = slices.Clone(f.Tasks), slices.Clone(f.Owners)
	return f
}

// same tells whether both machines are the same, field by field.
func same(a, b api.Flat) bool {
	if len(a.Tasks) != len(b.Tasks) || len(a.Owners) != len(b.Owners) || a.Time != b.Time {
		return false
	}
	for i, x := range a.Tasks {
		y := b.Tasks[i]
		if x.Prog != y.Prog || x.Pc != y.Pc || x.Regs != y.Regs || x.State != y.State || x.On != y.On {
			return false
		}
	}
	for i, x := range a.Owners {
		if x != b.Owners[i] {
			return false
		}
	}
	return slices.Equal(cpuset.List(a.Online), cpuset.List(b.Online))
}

// shift is how an event lets a task go from states, and from what these say, to another one; what they say is told by a letter: * is anything, 0, a, b, c the event's A, B and Cpu.
type shift struct {
	from   []int
	on     byte
	to     int // -1: the event's A
	toOn   byte
	beside func(f api.Flat, e api.Event) bool
}

// homeless are the states of tasks that may go home.
var homeless = []int{0, api.Waiting, api.Sleeping, api.Blocked, api.Joining, api.Held, api.Parked}

// shifts is what the document says of the events that shift tasks.
var shifts = map[int]shift{
	api.EvDispatch: {from: []int{api.Waiting}, on: 'a', to: api.Running, toOn: 'c', beside: free},
	api.EvStop:     {from: []int{api.Running}, on: 'c', to: 0, toOn: '0'},
	api.EvReady:    {from: homeless, on: '*', to: api.Waiting, toOn: 'a'},
	api.EvPark:     {from: homeless, on: '*', to: api.Parked, toOn: '0'},
	api.EvHold:     {from: homeless, on: '*', to: api.Held, toOn: 'a'},
	api.EvMove:     {from: []int{api.Waiting}, on: 'a', to: api.Waiting, toOn: 'b'},
	api.EvWait:     {from: []int{0}, on: '*', to: -1, toOn: 'b', beside: waitedFor},
	api.EvExit:     {from: []int{0}, on: '*', to: api.Exited, toOn: 'a'},
}

// free tells whether the event's worker is online, and no task runs there.
func free(f api.Flat, e api.Event) bool {
	is := slices.Contains(cpuset.List(f.Online), e.Cpu)
	for _, x := range f.Tasks {
		is = is && !(x.State == api.Running && x.On == e.Cpu)
	}
	return is
}

func waitedFor(_ api.Flat, e api.Event) bool {
	return slices.Contains([]int{api.Sleeping, api.Blocked, api.Joining}, e.A)
}

// number is what a letter says of the event.
func number(letter byte, e api.Event) int {
	return map[byte]int{'0': 0, 'a': e.A, 'b': e.B, 'c': e.Cpu}[letter]
}

// shifted is the task behind an event that shifts it, and whether that may happen.
func shifted(f api.Flat, e api.Event) (api.FlatTask, bool) {
	x, s := f.Tasks[e.Task], shifts[e.Kind]
	if !slices.Contains(s.from, x.State) || s.on != '*' && x.On != number(s.on, e) || s.beside != nil && !s.beside(f, e) {
		return x, false
	}
	x.State, x.On = s.to, number(s.toOn, e)
	if s.to < 0 {
		x.State = e.A
	}
	return x, true
}

// turned is the task behind one of the other events of tasks.
func turned(f api.Flat, l []api.Prog, e api.Event) (api.FlatTask, bool) {
	x := f.Tasks[e.Task]
	runs := x.State == api.Running && x.On == e.Cpu
	switch e.Kind {
	case api.EvOut:
		return x, runs || x.State == 0
	case api.EvReg:
		if x.State == api.Exited || !slices.Contains([]int{0, 1, 2, 3}, e.A) || e.B < math.MinInt32 || e.B > math.MaxInt32 {
			return x, false
		}
		x.Regs[e.A] = int32(e.B)
		return x, true
	case api.EvIns:
		var ops []int
		if x.Prog >= 0 && x.Prog < len(l) {
			for _, i := range l[x.Prog].Code {
				ops = append(ops, i.Op)
			}
		}
		if !runs || e.B != x.Pc || x.Pc < 0 || x.Pc >= len(ops) || ops[x.Pc] != e.A {
			return x, false
		}
		x.Pc, x.Regs, _ = exec.Step(l[x.Prog], x.Pc, x.Regs)
		return x, true
	}
	return x, false
}

// wanted is what the document says of Next.
func wanted(f api.Flat, l []api.Prog, e api.Event) (api.Flat, bool) { // P19.2
	f = clone(f)
	isTask := e.Task >= 0 && e.Task < len(f.Tasks)
	isLock := e.A >= 0 && e.A < len(f.Owners)
	online := slices.Contains(cpuset.List(f.Online), e.Cpu)
	ok := false
	switch e.Kind {
	case api.EvFail, api.EvIdle, api.EvMask, api.EvBubble:
		return f, true
	case api.EvNew:
		if ok = e.Task == len(f.Tasks) && e.A >= 0 && e.A < len(l); ok {
			f.Tasks = append(f.Tasks, api.FlatTask{Prog: e.A})
		}
	case api.EvOnline:
		if ok = !online && e.Cpu >= 0 && e.Cpu <= 1023; ok {
			f.Online = cpuset.Or(f.Online, cpuset.Of(e.Cpu))
		}
	case api.EvOffline:
		if ok = free(f, e); ok {
			f.Online = cpuset.Minus(f.Online, cpuset.Of(e.Cpu))
		}
	case api.EvTick:
		if ok = e.A >= 1 && f.Time == e.A-1; ok {
			f.Time = e.A
		}
	case api.EvOwn:
		if ok = isTask && isLock && f.Owners[e.A] == -1; ok {
			f.Owners[e.A] = e.Task
		}
	case api.EvFree:
		if ok = isTask && isLock && f.Owners[e.A] == e.Task; ok {
			f.Owners[e.A] = -1
		}
	default:
		if !isTask {
			return f, false
		}
		if _, is := shifts[e.Kind]; is {
			f.Tasks[e.Task], ok = shifted(f, e)
		} else {
			f.Tasks[e.Task], ok = turned(f, l, e)
		}
	}
	return f, ok
}

// checkNext checks what Next answers, and what is said to follow of it.
func checkNext(t *testing.T, f api.Flat, l []api.Prog, e api.Event) (api.Flat, bool) { // P19.2, P19.4, P19.5
	t.Helper()
	was := clone(f)
	got, ok := flat.Next(f, l, e)
	want, wok := wanted(f, l, e)
	if !same(got, want) || ok != wok || !ok && !same(got, f) {
		t.Fatalf("%v: %v: %v, %t, not %v, %t", f, e, got, ok, want, wok)
	}
	if !same(f, was) {
		t.Fatalf("%v: %v: the machine that was handed in is %v", was, e, f)
	}
	if flat.Right(f) && !flat.Right(got) {
		t.Fatalf("%v: %v: %v isn't right", f, e, got)
	}
	for i, x := range f.Tasks {
		if x.State == api.Exited && got.Tasks[i] != x {
			t.Fatalf("%v: %v: task %d, that has exited, is %v", f, e, i, got.Tasks[i])
		}
	}
	return got, ok
}

// isApart checks that two machines have no list in common, spare room included.
func isApart(t *testing.T, a, b api.Flat) {
	t.Helper()
	was := clone(b)
	for i := range a.Tasks[:cap(a.Tasks)] {
		a.Tasks[:cap(a.Tasks)][i] = api.FlatTask{Prog: 77, On: 77}
	}
	for i := range a.Owners[:cap(a.Owners)] {
		a.Owners[:cap(a.Owners)][i] = 77
	}
	if !same(b, was) {
		t.Fatalf("%v: was %v ahead", b, was)
	}
}

func TestOwnExample(t *testing.T) { // P19.2
	f := flat.New(cpuset.Of(0, 1), 0)
	for _, e := range []api.Event{{Kind: api.EvNew, Cpu: -1}, {Kind: api.EvReady, Cpu: -1, A: 1}, {Kind: api.EvDispatch, A: 1}} {
		var ok bool
		if f, ok = checkNext(t, f, progs, e); !ok {
			t.Fatal(e)
		}
	}
	if f.Tasks[0] != task(api.Running, 0) {
		t.Error(f)
	}
	for _, e := range []api.Event{{Kind: api.EvDispatch, A: 1}, {Kind: api.EvDispatch, A: 0}, {Kind: api.EvDispatch, Cpu: 1, A: 1}} {
		if _, ok := checkNext(t, f, progs, e); ok {
			t.Error(e)
		}
	}
}

func TestNew(t *testing.T) { // P19.1
	for _, online := range []api.Set{{}, cpuset.Of(0), cpuset.Of(3, 64, 1023), cpuset.Range(0, 1023)} {
		for locks, want := range map[int]int{0: 0, 1: 1, 5: 5, 15: 15, 16: 16, 17: 16, 1 << 40: 16, math.MaxInt: 16, -1: 0, -16: 0, math.MinInt: 0} {
			f := flat.New(online, locks)
			if !same(f, api.Flat{Online: online, Owners: slices.Repeat([]int{-1}, want)}) || !flat.Right(f) {
				t.Errorf("%s, %d: %v", cpuset.Print(online), locks, f)
			}
			isApart(t, f, flat.New(online, locks))
		}
	}
}

func TestRight(t *testing.T) { // P19.1
	for state := range api.Exited + 1 {
		if state != api.Running && (!flat.Right(of(task(state, 1<<40))) || !flat.Right(of(task(state, -1), task(state, -1)))) {
			t.Errorf("state %d", state)
		}
	}
	for _, f := range []api.Flat{{}, of(task(api.Running, 0)), of(task(api.Running, 3), task(api.Running, 1023), task(api.Waiting, 3), task(0, 3), task(api.Running, 0))} {
		for _, time := range []int{0, 1, api.MaxTime, math.MaxInt} {
			f.Time = time
			if !flat.Right(f) {
				t.Errorf("%v", f)
			}
		}
		for _, time := range []int{-1, math.MinInt} {
			f.Time = time
			if flat.Right(f) {
				t.Errorf("%v", f)
			}
		}
	}
	for _, f := range []api.Flat{
		of(task(-1, 0)), of(task(9, 0)), of(task(math.MinInt, 0)), of(task(math.MaxInt, 0)), of(task(0, 0), task(9, 0)), // no states
		of(task(api.Running, 4)), of(task(api.Running, 1022)), of(task(api.Running, -1)), of(task(api.Running, 1024)), of(task(0, 0), task(api.Running, math.MinInt)), // not online
		of(task(api.Running, 0), task(api.Running, 0)), of(task(api.Running, 1023), task(0, 0), task(api.Running, 1023)), // two on one
	} {
		if flat.Right(f) {
			t.Errorf("%v", f)
		}
	}
	for owner, want := range map[int]bool{-1: true, 0: true, 1: true, 2: false, -2: false, math.MinInt: false, math.MaxInt: false} {
		f := of(task(0, 0), task(api.Exited, 3))
		f.Owners[1] = owner
		if flat.Right(f) != want {
			t.Errorf("owner %d: %t", owner, !want)
		}
	}
}

func TestNewTask(t *testing.T) { // P19.2
	for _, w := range []struct {
		task, prog int
		want       bool
	}{{2, 0, true}, {2, 1, true}, {2, 2, true}, {2, 3, true}, {2, 4, false}, {2, -1, false}, {1, 0, false}, {0, 0, false}, {3, 0, false}, {-1, 0, false}} {
		f, ok := checkNext(t, of(task(0, 0), task(api.Exited, 4)), progs, api.Event{Kind: api.EvNew, Task: w.task, Cpu: 3, A: w.prog, B: 9})
		if ok != w.want || ok && (len(f.Tasks) != 3 || f.Tasks[2] != api.FlatTask{Prog: w.prog}) {
			t.Errorf("%v: %v, %t", w, f, ok)
		}
	}
	if _, ok := flat.Next(of(), nil, api.Event{Kind: api.EvNew}); ok {
		t.Error("of no program")
	}
}

// way is what an event does to task 0, by hand; -9 stands for an event that may not happen.
type way struct {
	e         api.Event
	x         api.FlatTask
	state, on int
}

func TestWays(t *testing.T) { // P19.2
	const no = -9
	var ways []way
	for state := -1; state <= 9; state++ { // states that are none, too
		for _, on := range []int{0, 1} {
			x := task(state, on)
			want := func(e api.Event, is bool, to, toOn int) {
				if !is {
					to, toOn = no, no
				}
				ways = append(ways, way{e, x, to, toOn})
			}
			waits, runs, loose := state == 1, state == 2, state == 0
			home := loose || waits || state >= 3 && state <= 7
			want(api.Event{Kind: api.EvDispatch, Cpu: 3, A: 1}, waits && on == 1, api.Running, 3)
			want(api.Event{Kind: api.EvDispatch, Cpu: 1, A: 0}, waits && on == 0, api.Running, 1)
			want(api.Event{Kind: api.EvDispatch, Cpu: 4, A: 0}, false, 0, 0) // it isn't online
			want(api.Event{Kind: api.EvDispatch, Cpu: 2, A: 0}, false, 0, 0) // another one runs there
			want(api.Event{Kind: api.EvStop, Cpu: 1, A: 3}, runs && on == 1, 0, 0)
			want(api.Event{Kind: api.EvStop, Cpu: 0, A: -3}, runs && on == 0, 0, 0)
			want(api.Event{Kind: api.EvReady, Cpu: 2, A: 7}, home, api.Waiting, 7)
			want(api.Event{Kind: api.EvPark, Cpu: 2, A: 7}, home, api.Parked, 0)
			want(api.Event{Kind: api.EvHold, Cpu: 2, A: 7}, home, api.Held, 7)
			want(api.Event{Kind: api.EvMove, Cpu: 2, A: 1, B: 6}, waits && on == 1, api.Waiting, 6)
			want(api.Event{Kind: api.EvMove, Cpu: 2, A: 0, B: 0}, waits && on == 0, api.Waiting, 0)
			for a := -1; a <= 9; a++ {
				want(api.Event{Kind: api.EvWait, Cpu: 0, A: a, B: 8}, loose && a >= 3 && a <= 5, a, 8)
			}
			want(api.Event{Kind: api.EvExit, Cpu: 0, A: -8}, loose, api.Exited, -8)
			want(api.Event{Kind: api.EvOut, Cpu: 1, A: 5}, loose || runs && on == 1, state, on)
			want(api.Event{Kind: api.EvOut, Cpu: -1, A: 5}, loose, state, on)
		}
	}
	for _, w := range ways {
		f, ok := checkNext(t, of(w.x, task(api.Running, 2)), progs, w.e)
		if ok != (w.state != no) || ok && f.Tasks[0] != task(w.state, w.on) || f.Tasks[1] != task(api.Running, 2) {
			t.Errorf("%v: %v, %t", w, f, ok)
		}
	}
}

func TestIns(t *testing.T) { // P19.2
	type regs = [api.Regs]int32
	for _, w := range []struct {
		x    api.FlatTask
		op   int
		pc   int
		regs regs
	}{
		{api.FlatTask{Pc: 0, Regs: regs{1, 2, 3, 4}}, api.InsSet, 1, regs{1, 5, 3, 4}},
		{api.FlatTask{Pc: 1, Regs: regs{1, 5, 3, 4}}, api.InsOut, 2, regs{1, 5, 3, 4}},
		{api.FlatTask{Pc: 2, Regs: regs{1, math.MaxInt32, 3, 4}}, api.InsAdd, 3, regs{math.MinInt32, math.MaxInt32, 3, 4}},
		{api.FlatTask{Pc: 3, Regs: regs{1}}, api.InsJnz, 1, regs{1}},
		{api.FlatTask{Pc: 3, Regs: regs{0, 1}}, api.InsJnz, 4, regs{0, 1}},
		{api.FlatTask{Pc: 4, Regs: regs{0, 1}}, api.InsExit, 4, regs{0, 1}},
		{api.FlatTask{Prog: 1}, api.InsJump, 0, regs{}},
		{api.FlatTask{Prog: 2, Regs: regs{3}}, api.InsSet, 0, regs{3}}, // of a program that may not be a step does nothing
		{api.FlatTask{Prog: 2, Pc: 1}, 0, 1, regs{}},
	} {
		w.x.State, w.x.On = api.Running, 3
		e := api.Event{Kind: api.EvIns, Task: 1, Cpu: 3, A: w.op, B: w.x.Pc}
		f, ok := checkNext(t, of(task(0, 0), w.x), progs, e)
		want := w.x
		want.Pc, want.Regs = w.pc, w.regs
		if !ok || f.Tasks[1] != want {
			t.Errorf("%v: %v, %t", w, f, ok)
		}
		for _, wrong := range []api.Event{{Kind: api.EvIns, Task: 1, Cpu: 2, A: e.A, B: e.B}, {Kind: api.EvIns, Task: 1, Cpu: 3, A: e.A + 1, B: e.B}, {Kind: api.EvIns, Task: 1, Cpu: 3, A: e.A, B: e.B + 1}, {Kind: api.EvIns, Task: 1, Cpu: 3, A: e.A, B: e.B - 1}, {Kind: api.EvIns, Task: 0, Cpu: 3, A: e.A, B: e.B}} {
			if _, ok := checkNext(t, of(task(0, 0), w.x), progs, wrong); ok {
				t.Errorf("%v: %v", w, wrong)
			}
		}
		for pc, i := range progs[w.x.Prog].Code { // another place, with that one's op
			if _, ok := checkNext(t, of(task(0, 0), w.x), progs, api.Event{Kind: api.EvIns, Task: 1, Cpu: 3, A: i.Op, B: pc}); ok != (pc == w.x.Pc) {
				t.Errorf("%v: %d: %t", w, pc, ok)
			}
		}
	}
	for _, x := range []api.FlatTask{{Prog: 0, Pc: 5}, {Prog: 0, Pc: -1}, {Prog: 0, Pc: math.MinInt}, {Prog: 3}, {Prog: 4}, {Prog: -1}, {Prog: math.MaxInt}} { // no such place, no such program
		x.State = api.Running
		for op := range 16 {
			if _, ok := checkNext(t, of(x), progs, api.Event{Kind: api.EvIns, A: op, B: x.Pc}); ok {
				t.Errorf("%v: %d", x, op)
			}
		}
	}
	if _, ok := flat.Next(of(task(api.Running, 0)), nil, api.Event{Kind: api.EvIns, A: api.InsSet}); ok {
		t.Error("of no programs")
	}
}

func TestReg(t *testing.T) { // P19.2
	for state := range api.Exited {
		for reg := range api.Regs {
			for _, n := range []int{0, -1, 7, math.MaxInt32, math.MinInt32} {
				x := task(state, 3)
				x.Regs = [api.Regs]int32{11, 12, 13, 14}
				f, ok := checkNext(t, of(task(0, 0), x), progs, api.Event{Kind: api.EvReg, Task: 1, Cpu: -1, A: reg, B: n})
				x.Regs[reg] = int32(n)
				if !ok || f.Tasks[1] != x {
					t.Errorf("state %d, register %d, %d: %v, %t", state, reg, n, f, ok)
				}
			}
			for _, n := range []int{math.MaxInt32 + 1, math.MinInt32 - 1, 1 << 32, -1 << 32, 1<<32 + 5, math.MaxInt, math.MinInt} {
				if _, ok := checkNext(t, of(task(state, 0)), progs, api.Event{Kind: api.EvReg, A: reg, B: n}); ok {
					t.Errorf("register %d is %d", reg, n)
				}
			}
		}
		for _, reg := range append([]int{4, 5}, strange...) {
			if _, ok := checkNext(t, of(task(state, 0)), progs, api.Event{Kind: api.EvReg, A: reg}); ok {
				t.Errorf("register %d", reg)
			}
		}
	}
	if _, ok := checkNext(t, of(task(api.Exited, 0)), progs, api.Event{Kind: api.EvReg}); ok {
		t.Error("of one that has exited")
	}
}

func TestLocks(t *testing.T) { // P19.2, P19.5
	f := of(task(0, 0), task(api.Running, 1), task(api.Blocked, 2))
	f.Owners = []int{-1, 0, 1, -2}
	for _, w := range []struct {
		kind, task, lock, owner int
	}{
		{api.EvOwn, 0, 0, 0}, {api.EvOwn, 2, 0, 2}, {api.EvOwn, 0, 1, -9}, {api.EvOwn, 1, 1, -9}, {api.EvOwn, 2, 2, -9}, {api.EvOwn, 0, 3, -9},
		{api.EvOwn, -1, 0, -9}, {api.EvOwn, 3, 0, -9}, {api.EvOwn, 0, -1, -9}, {api.EvOwn, 0, 4, -9},
		{api.EvFree, 0, 1, -1}, {api.EvFree, 1, 2, -1}, {api.EvFree, 0, 0, -9}, {api.EvFree, 1, 1, -9}, {api.EvFree, 2, 1, -9}, {api.EvFree, 2, 2, -9},
		{api.EvFree, -1, 0, -9}, {api.EvFree, -2, 3, -9}, {api.EvFree, 0, -1, -9}, {api.EvFree, 0, 4, -9},
	} {
		got, ok := checkNext(t, f, progs, api.Event{Kind: w.kind, Task: w.task, Cpu: -1, A: w.lock, B: 3})
		if ok != (w.owner != -9) || ok && got.Owners[w.lock] != w.owner {
			t.Errorf("%v: %v, %t", w, got, ok)
		}
	}
	for _, lock := range strange {
		for _, kind := range []int{api.EvOwn, api.EvFree} {
			if _, ok := checkNext(t, f, progs, api.Event{Kind: kind, A: lock}); ok {
				t.Errorf("lock %d", lock)
			}
		}
	}
}

func TestWorkers(t *testing.T) { // P19.2
	f := of(task(api.Running, 1), task(api.Waiting, 2), task(0, 3))
	for cpu, want := range map[int]bool{4: true, 63: true, 64: true, 1022: true, 0: false, 1: false, 1023: false, 1024: false, -1: false, -64: false, math.MinInt: false, math.MaxInt: false} {
		got, ok := checkNext(t, f, progs, api.Event{Kind: api.EvOnline, Task: -1, Cpu: cpu})
		if ok != want || cpuset.Has(got.Online, cpu) != (want || cpuset.Has(f.Online, cpu)) {
			t.Errorf("online %d: %t", cpu, ok)
		}
	}
	for cpu, want := range map[int]bool{0: true, 2: true, 3: true, 1023: true, 1: false, 4: false, 1022: false, 1024: false, -1: false, -64: false, math.MinInt: false, math.MaxInt: false} {
		got, ok := checkNext(t, f, progs, api.Event{Kind: api.EvOffline, Task: -1, Cpu: cpu})
		if ok != want || cpuset.Has(got.Online, cpu) != (!want && cpuset.Has(f.Online, cpu)) {
			t.Errorf("offline %d: %t", cpu, ok)
		}
	}
	if got, ok := checkNext(t, flat.New(cpuset.Of(5), 0), nil, api.Event{Kind: api.EvOffline, Cpu: 5}); !ok || got.Online != (api.Set{}) {
		t.Error("the last one", got, ok) // that it may not go is layer 20's
	}
}

func TestTick(t *testing.T) { // P19.2
	for _, w := range []struct {
		time, a int
		want    bool
	}{
		{0, 1, true}, {5, 6, true}, {api.MaxTime, api.MaxTime + 1, true}, {math.MaxInt - 1, math.MaxInt, true},
		{0, 0, false}, {0, 2, false}, {5, 5, false}, {5, 7, false}, {5, 1, false}, {5, -6, false},
		{-1, 0, false}, {-6, -5, false}, {math.MinInt, math.MinInt + 1, false}, {math.MaxInt, math.MinInt, false}, {math.MaxInt, math.MaxInt, false}, {math.MinInt, math.MaxInt, false},
	} {
		f := of(task(0, 0))
		f.Time = w.time
		got, ok := checkNext(t, f, progs, api.Event{Kind: api.EvTick, Task: -1, Cpu: -1, A: w.a})
		if ok != w.want || ok && got.Time != w.a {
			t.Errorf("%v: %v, %t", w, got, ok)
		}
	}
}

func TestNothingChanges(t *testing.T) { // P19.2: whatever fail, idle, mask and bubble say
	f := of(task(0, 0), task(api.Running, 1))
	for _, kind := range []int{api.EvFail, api.EvIdle, api.EvMask, api.EvBubble} {
		for _, n := range append([]int{0, 1, 2}, strange...) {
			for _, f := range []api.Flat{f, {}, of(task(-7, 9))} {
				if got, ok := checkNext(t, f, nil, api.Event{Kind: kind, Task: n, Cpu: n, A: n, B: -n}); !ok || !same(got, f) {
					t.Errorf("%d: %d: %v, %t", kind, n, got, ok)
				}
			}
		}
	}
	for _, kind := range append([]int{0, 22, 23}, strange...) { // what is none may not happen
		if _, ok := checkNext(t, f, progs, api.Event{Kind: kind}); ok {
			t.Errorf("kind %d", kind)
		}
	}
}

func TestNoSuchTask(t *testing.T) { // P19.2: no event of a task happens to one that there isn't
	ofTasks := []int{api.EvDispatch, api.EvIns, api.EvStop, api.EvReady, api.EvPark, api.EvHold, api.EvMove, api.EvOwn, api.EvFree, api.EvWait, api.EvOut, api.EvExit, api.EvReg}
	for _, f := range []api.Flat{of(), of(task(0, 0), task(api.Waiting, 0), task(api.Running, 0))} {
		for _, id := range append([]int{len(f.Tasks), len(f.Tasks) + 1}, strange...) {
			for _, kind := range ofTasks {
				for a := range 4 {
					if _, ok := checkNext(t, f, progs, api.Event{Kind: kind, Task: id, A: a}); ok {
						t.Errorf("kind %d, task %d", kind, id)
					}
				}
			}
		}
	}
	for _, e := range []api.Event{{Kind: api.EvOnline, Cpu: 9}, {Kind: api.EvOffline}, {Kind: api.EvTick, A: 6}} { // these are of none
		for _, id := range append([]int{0, 1}, strange...) {
			e.Task = id
			if _, ok := checkNext(t, of(task(0, 0)), progs, e); !ok {
				t.Error(e)
			}
		}
	}
}

func TestAllSmall(t *testing.T) { // P19.2, P19.4, P19.5
	for state := -1; state <= 9; state++ {
		for on := -1; on <= 2; on++ {
			for _, other := range []api.FlatTask{task(0, 0), task(api.Running, 0), task(api.Waiting, 1)} {
				f := api.Flat{Tasks: []api.FlatTask{task(state, on), other}, Online: cpuset.Of(0, 1), Owners: []int{-1, 1}, Time: 1}
				for kind := range 23 {
					for id := -1; id <= 2; id++ {
						for cpu := -1; cpu <= 2; cpu++ {
							for a := -1; a <= 8; a++ {
								for b := range 2 {
									checkNext(t, f, progs, api.Event{Kind: kind, Task: id, Cpu: cpu, A: a, B: b})
								}
							}
						}
					}
				}
			}
		}
	}
}

// fitting are kinds of events that may happen to a task in that state.
func fitting(state int) []int {
	switch state {
	case 0:
		return []int{api.EvReady, api.EvReady, api.EvReady, api.EvWait, api.EvExit, api.EvHold, api.EvOwn, api.EvFree}
	case api.Waiting:
		return []int{api.EvDispatch, api.EvDispatch, api.EvDispatch, api.EvMove, api.EvPark}
	case api.Running:
		return []int{api.EvIns, api.EvIns, api.EvIns, api.EvStop, api.EvOut, api.EvOwn, api.EvFree}
	}
	return []int{api.EvReady, api.EvHold, api.EvPark, api.EvReg}
}

// eventAtRandom is one that may happen to the machine as often as not.
func eventAtRandom(r *rand.Rand, f api.Flat) api.Event {
	e := api.Event{Kind: 1 + r.Intn(21), Task: r.Intn(len(f.Tasks) + 1), Cpu: r.Intn(4), A: r.Intn(6), B: r.Intn(5)}
	if e.Task == len(f.Tasks) && len(f.Tasks) < 6 {
		e.Kind = api.EvNew
	}
	if e.Task == len(f.Tasks) || r.Intn(5) == 0 {
		switch e.Kind {
		case api.EvNew:
			e.Task, e.A = len(f.Tasks), r.Intn(2)
		case api.EvTick:
			e.A = f.Time + 1
		}
		return e
	}
	x := f.Tasks[e.Task]
	e.Kind = fitting(x.State)[r.Intn(len(fitting(x.State)))]
	switch e.Kind {
	case api.EvDispatch, api.EvMove:
		e.A = x.On
	case api.EvIns:
		e.A, e.B = progs[x.Prog].Code[x.Pc].Op, x.Pc
	case api.EvOwn:
		e.A = slices.Index(f.Owners, -1)
	case api.EvFree:
		e.A = slices.Index(f.Owners, e.Task)
	}
	if x.State == api.Running && r.Intn(6) > 0 {
		e.Cpu = x.On
	}
	return e
}

// checkPlay checks what Play answers of the row, and that of it in two parts, at each place.
func checkPlay(t *testing.T, f api.Flat, l []api.Event, want api.Flat, bad int) { // P19.3, P19.6
	t.Helper()
	was, row := clone(f), slices.Clone(l)
	got, at := flat.Play(f, progs, l)
	if !same(got, want) || at != bad {
		t.Fatalf("%v: %v, %d, not %v, %d", l, got, at, want, bad)
	}
	for cut := range len(l) + 1 {
		half, at := flat.Play(f, progs, l[:cut])
		if at != -1 {
			if at != bad || at >= cut || !same(half, want) {
				t.Fatalf("%v: the first %d: %v, %d, not %v, %d", l, cut, half, at, want, bad)
			}
			continue
		}
		whole, at := flat.Play(half, progs, l[cut:])
		if at >= 0 {
			at += cut
		}
		if at != bad || !same(whole, want) {
			t.Fatalf("%v: the first %d, then the others: %v, %d, not %v, %d", l, cut, whole, at, want, bad)
		}
		isApart(t, half, whole)
	}
	if !same(f, was) || !slices.Equal(l, row) {
		t.Fatal("what was handed in is another one")
	}
	isApart(t, got, f)
}

func TestPlayAtRandom(t *testing.T) { // P19.2 to P19.6
	r := rand.New(rand.NewSource(19))
	kinds := map[int]int{}
	for range 300 {
		f := flat.New(cpuset.Of(0, 1, 2), r.Intn(4))
		first, l := f, []api.Event(nil)
		for range r.Intn(120) {
			e := eventAtRandom(r, f)
			next, ok := checkNext(t, f, progs, e)
			if !ok && r.Intn(3) > 0 {
				continue
			}
			if !flat.Right(next) {
				t.Fatal(next)
			}
			l = append(l, e)
			if !ok {
				checkPlay(t, first, l, f, len(l)-1)
				checkPlay(t, first, append(l, eventAtRandom(r, f), eventAtRandom(r, f)), f, len(l)-1)
				l = l[:len(l)-1]
				continue
			}
			f = next
			kinds[e.Kind]++
		}
		checkPlay(t, first, l, f, -1)
	}
	for kind := range 21 {
		if kinds[kind+1] < 40 {
			t.Errorf("kind %d happened %d times", kind+1, kinds[kind+1])
		}
	}
}

func TestPlay(t *testing.T) { // P19.3
	f := of(task(0, 0))
	tick := func(time int) api.Event { return api.Event{Kind: api.EvTick, A: time} }
	for _, w := range []struct {
		l         []api.Event
		time, bad int
	}{
		{nil, 5, -1}, {[]api.Event{}, 5, -1}, {[]api.Event{tick(6), tick(7)}, 7, -1}, {[]api.Event{tick(7)}, 5, 0}, {[]api.Event{tick(7), tick(6)}, 5, 0},
		{[]api.Event{tick(6), tick(6), tick(7)}, 6, 1}, {[]api.Event{tick(6), tick(7), {}}, 7, 2},
	} {
		got, bad := flat.Play(f, nil, w.l)
		want := f
		want.Time = w.time
		if bad != w.bad || !same(got, want) {
			t.Errorf("%v: %v, %d", w.l, got, bad)
		}
		isApart(t, got, f)
	}
}

func TestMemory(t *testing.T) { // P19.2: whether it may happen or not, an answer's lists are new, and what was handed in stays, its spare room included
	tasks := append(make([]api.FlatTask, 0, 8), task(api.Waiting, 1), task(api.Running, 1), task(9, 9))
	owners := append(make([]int, 0, 8), -1, 1, 77)
	f := api.Flat{Tasks: tasks[:2], Owners: owners[:2], Online: cpuset.Of(0, 1)}
	for kind := range 23 {
		for _, a := range []int{0, 1, 3} {
			for id := range 3 {
				got, _ := flat.Next(f, progs, api.Event{Kind: kind, Task: id, A: a})
				if tasks[2] != task(9, 9) || owners[2] != 77 {
					t.Fatalf("kind %d: %v, %v", kind, tasks, owners)
				}
				isApart(t, got, api.Flat{Tasks: tasks, Owners: owners})
			}
		}
	}
	got, _ := flat.Play(f, progs, []api.Event{{Kind: api.EvNew, Task: 2}, {Kind: api.EvOwn}})
	if tasks[2] != task(9, 9) || owners[0] != -1 || len(got.Tasks) != 3 {
		t.Error(tasks, owners, got)
	}
}

func TestSame(t *testing.T) { // P19.3
	base := func() api.Flat {
		f := of(api.FlatTask{Prog: 1, Pc: 2, Regs: [api.Regs]int32{3, 4, 5, 6}, State: 7, On: 8}, task(0, 0))
		return clone(f)
	}
	if !flat.Same(base(), base()) || !flat.Same(api.Flat{}, api.Flat{Tasks: []api.FlatTask{}, Owners: []int{}}) {
		t.Error("the same")
	}
	for i, change := range []func(f *api.Flat){
		func(f *api.Flat) { f.Tasks[0].Prog++ }, func(f *api.Flat) { f.Tasks[0].Pc++ }, func(f *api.Flat) { f.Tasks[0].State++ }, func(f *api.Flat) { f.Tasks[1].On++ },
		func(f *api.Flat) { f.Tasks[0].Regs[0]++ }, func(f *api.Flat) { f.Tasks[0].Regs[3]++ }, func(f *api.Flat) { f.Tasks = f.Tasks[:1] }, func(f *api.Flat) { f.Tasks = nil },
		func(f *api.Flat) { f.Tasks = append(f.Tasks, api.FlatTask{}) }, func(f *api.Flat) { slices.Reverse(f.Tasks) },
		func(f *api.Flat) { f.Online[0]++ }, func(f *api.Flat) { f.Online[15] = 0 },
		func(f *api.Flat) { f.Owners[2]++ }, func(f *api.Flat) { f.Owners = f.Owners[:2] }, func(f *api.Flat) { f.Owners = append(f.Owners, -1) },
		func(f *api.Flat) { f.Time++ }, func(f *api.Flat) { f.Time = -f.Time },
	} {
		f := base()
		change(&f)
		if flat.Same(f, base()) || flat.Same(base(), f) || !flat.Same(f, clone(f)) {
			t.Errorf("change %d", i)
		}
	}
}

func TestMany(t *testing.T) { // P19.3: a long row
	f := flat.New(cpuset.Of(0), 0)
	var l []api.Event
	for id := range 3000 {
		l = append(l, api.Event{Kind: api.EvNew, Task: id}, api.Event{Kind: api.EvReady, Task: id}, api.Event{Kind: api.EvDispatch, Task: id}, api.Event{Kind: api.EvStop, Task: id}, api.Event{Kind: api.EvExit, Task: id, A: id})
	}
	got, bad := flat.Play(f, progs, l)
	if bad != -1 || len(got.Tasks) != 3000 || got.Tasks[2999] != task(api.Exited, 2999) || !flat.Right(got) {
		t.Error(bad, len(got.Tasks))
	}
}
