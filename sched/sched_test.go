package sched_test

import (
	"math"
	"reflect"
	"slices"
	"testing"

	"pinfold/api"
	"pinfold/cpuset"
	"pinfold/flat"
	"pinfold/sched"
	"pinfold/topo"
)

// wide has the domains m 0, s 1, a 2, b 3, c 4; the sockets are 1 and 4. (What it says of m's room counts for nothing.)
const wide = "domain m queue 1 { domain s queue 2 { domain a queue 1 cpus 0; domain b cpus 1; } domain c queue 2 cpus 2,700; }"

// wrongs are numbers that are no task's, worker's, bubble's, lock's, domain's or program's.
var wrongs = []int{-1, -2, -64, api.MaxCpu, api.MaxCpu + 1, 1 << 31, 1 << 32, 1 << 40, math.MinInt32, math.MinInt, math.MaxInt}

// busyCode asks nothing for a long time.
const busyCode = "set r1 5, add r0 r1, sub r0 r1, set r2 6, set r3 7, set r1 8, jump 0"

// config is a usual one: the programs, each of priority 0, masks (two of which have none of the tree wide's workers), and two locks.
func config(t *testing.T, programs ...string) api.Config {
	t.Helper()
	c := api.Config{Room: 8, Masks: []api.Set{cpuset.Of(0), cpuset.Of(1, 2, 900), {}, cpuset.Of(900), cpuset.Of(0, 1)}, Locks: 2}
	for _, text := range programs {
		c.Progs = append(c.Progs, code(t, 0, text))
	}
	return c
}

// stage plays a script on a new machine of the tree wide.
func stage(t *testing.T, c api.Config, script string) *sched.Machine {
	t.Helper()
	x := tree(t, wide)
	m := machine(t, x, c)
	play(t, m, x, c, script)
	return m
}

// times is n of one and the same.
func times[T any](n int, x T) []T { return slices.Repeat([]T{x}, n) }

// fine is a program that may be.
var fine = api.Prog{Code: []api.Ins{{Op: api.InsExit}}}

func TestNewRefuses(t *testing.T) { // P20.1
	x := tree(t, wide)
	bent := api.Topo{Domains: slices.Clone(x.Domains)}
	bent.Domains[2].Cpus = cpuset.Of(0, 1)
	ok := api.Config{Room: 1}
	for _, bad := range []api.Topo{{}, bent, {Domains: x.Domains[1:]}, {Domains: x.Domains[:4]}} {
		if m, e := sched.New(bad, ok); m != nil || e != api.ErrArg {
			t.Error(bad, m, e)
		}
	}
	configs := []api.Config{{}, {Room: -1}, {Room: api.MaxTasks + 1}, {Room: math.MaxInt}, {Room: math.MinInt}, {Room: 1, Locks: -1}, {Room: 1, Locks: api.MaxLocks + 1}, {Room: 1, Locks: math.MaxInt},
		{Room: 1, Progs: times(api.MaxProgs+1, fine)}, {Room: 1, Masks: times(api.MaxProgs+1, cpuset.Of(0))},
		{Room: 1, Progs: []api.Prog{fine, {}}}, {Room: 1, Progs: []api.Prog{{Prio: 4, Code: fine.Code}, fine}}, {Room: 1, Progs: []api.Prog{{Code: []api.Ins{{Op: 15}}}}}}
	for _, c := range configs {
		if m, e := sched.New(x, c); m != nil || e != api.ErrArg {
			t.Error(c, m, e)
		}
	}
	configs = []api.Config{{Room: 1}, {Room: api.MaxTasks}, {Room: 1, Locks: api.MaxLocks}, {Room: 1, Progs: times(api.MaxProgs, fine)}, {Room: 1, Masks: times(api.MaxProgs, api.Set{})}}
	for _, c := range configs {
		if m, e := sched.New(x, c); m == nil || e != api.OK {
			t.Error(c, m, e)
		}
	}
}

func TestNew(t *testing.T) { // P20.1
	x := tree(t, wide)
	c := config(t, busyCode)
	m := machine(t, x, c)
	if l := m.Events(); len(l) > 0 {
		t.Error(l)
	}
	want := view{Flat: flat.New(cpuset.Of(0, 1, 2, 700), 2), Queues: make([][]api.Ready, 5), Running: map[int]int{}, Online: cpuset.Of(0, 1, 2, 700), Loads: make([]int, 5), Owners: []int{-1, -1}, Waiting: make([][]int, 2)}
	if got := look(m, x); !reflect.DeepEqual(got, want) {
		t.Errorf("%+v", got)
	}
}

func TestNothingIsKept(t *testing.T) { // what is handed in is neither kept nor changed
	x, c := tree(t, wide), config(t, "set r1 5, out r1, exit r1")
	m := machine(t, x, c)
	c.Progs[0].Code[0].N = 9
	c.Progs[0].Prio = 3
	c.Masks[0] = cpuset.Of(2)
	x.Domains[2].Cpus, x.Domains[0].Cpus = api.Set{}, api.Set{}
	c, x = config(t, "set r1 5, out r1, exit r1"), tree(t, wide)
	play(t, m, x, c, `
		new 0 0 -1 -> new 0 -1 0 -1 | ready 0 -1 0 0
		step 0 -> dispatch 0 0 0 0
		step 0 -> ins 0 0 1 0
		step 0 -> ins 0 0 13 1 | out 0 0 5 0
		step 0 -> ins 0 0 14 2 | stop 0 0 7 0 | exit 0 -1 5 0
		step 0 -> idle -1 0 0 0`)
	if !reflect.DeepEqual(c, config(t, "set r1 5, out r1, exit r1")) || !topo.Same(x, tree(t, wide)) {
		t.Error("changed")
	}
}

func TestRooms(t *testing.T) { // P20.1, P20.2: the whole's queue has room for all tasks, whatever the tree says; the others for what it says
	c := config(t, busyCode)
	c.Room = 5
	m := stage(t, c, `
		offline 0 -> offline -1 0 0 0
		new 0 0 -1 -> new 0 -1 0 -1 | park 0 -1 0 0
		new 0 0 -1 -> new 1 -1 0 -1 | park 1 -1 0 0
		new 0 0 -1 -> new 2 -1 0 -1 | park 2 -1 0 0
		new 0 0 -1 -> new 3 -1 0 -1 | park 3 -1 0 0
		new 0 0 -1 -> new 4 -1 0 -1 | park 4 -1 0 0
		online 0 -> online -1 0 0 0 | ready 0 -1 2 0 | ready 1 -1 1 0 | ready 2 -1 1 0 | ready 3 -1 0 0 | ready 4 -1 0 0
		new 0 0 -1 -> fail -1 -1 4 0`)
	for d, want := range [][]int{{3, 4}, {1, 2}, {0}, nil, nil} {
		var got []int
		for _, r := range m.Queue(d) {
			got = append(got, r.Task)
			if r.Moved || r.Prio != 0 || r.Mask != cpuset.Of(0) {
				t.Error(d, r)
			}
		}
		if !slices.Equal(got, want) {
			t.Error(d, got, want)
		}
	}
}

func TestExamples(t *testing.T) {
	stage(t, config(t, "set r1 5, out r1, exit r1"), `
		new 0 -1 -1 -> new 0 -1 0 -1 | ready 0 -1 0 0
		step 0 -> dispatch 0 0 0 0
		step 0 -> ins 0 0 1 0
		step 0 -> ins 0 0 13 1 | out 0 0 5 0
		step 0 -> ins 0 0 14 2 | stop 0 0 7 0 | exit 0 -1 5 0
		step 0 -> idle -1 0 0 0`)
	stage(t, config(t, busyCode), `
		new 0 -1 -1 -> new 0 -1 0 -1 | ready 0 -1 0 0
		step 700 -> dispatch 0 700 0 0
		step 700 -> ins 0 700 1 0
		step 700 -> ins 0 700 2 1
		step 700 -> ins 0 700 3 2
		step 700 -> ins 0 700 1 3 | stop 0 700 1 0 | ready 0 -1 4 0`)
	stage(t, config(t, busyCode), `
		new 0 -1 -1 -> new 0 -1 0 -1 | ready 0 -1 0 0
		pin 0 1 -> mask 0 -1 2 0
		offline 1 -> offline -1 1 0 0 | park 0 -1 0 0
		online 1 -> online -1 1 0 0 | ready 0 -1 3 0`)
	stage(t, config(t, busyCode), `
		offline 1 -> offline -1 1 0 0
		offline 700 -> offline -1 700 0 0
		offline 0 -> offline -1 0 0 0
		offline 2 -> fail -1 -1 7 0
		step 9 0 -> fail -1 -1 1 0`)
	stage(t, config(t, busyCode), `
		new 0 -1 -1 -> new 0 -1 0 -1 | ready 0 -1 0 0
		new 0 -1 -1 -> new 1 -1 0 -1 | ready 1 -1 0 0
		bubble -1 -1 -> bubble -1 -1 0 1
		put 0 0 -> mask 0 -1 3 0 | hold 0 -1 0 0
		put 1 0 -> mask 1 -1 3 0 | hold 1 -1 0 0
		seal 0 -> bubble -1 -1 0 2
		place 0 2 -> bubble -1 -1 0 3
		burst 0 -> bubble -1 -1 0 4 | ready 0 -1 2 0 | ready 1 -1 1 0`)
	x := tree(t, "domain m cpus 0;")
	c := config(t, "out r0, exit r0")
	play(t, machine(t, x, c), x, c, `
		new 0 -1 -1 -> new 0 -1 0 -1 | ready 0 -1 0 0
		step 0 -> dispatch 0 0 0 0
		step 0 -> ins 0 0 13 0 | out 0 0 0 0
		step 0 -> ins 0 0 14 1 | stop 0 0 7 0 | exit 0 -1 0 0`)
}

func TestMaskNumbers(t *testing.T) { // P20.1
	m := stage(t, config(t, busyCode), `
		new 0 -1 -1 -> new 0 -1 0 -1 | ready 0 -1 0 0
		new 0 0 -1 -> new 1 -1 0 -1 | ready 1 -1 0 0
		new 0 1 -1 -> new 2 -1 0 -1 | ready 2 -1 0 0
		new 0 4 -1 -> new 3 -1 0 -1 | ready 3 -1 0 0
		new 0 2 -1 -> fail -1 -1 6 0
		new 0 3 -1 -> fail -1 -1 6 0
		new 0 5 -1 -> fail -1 -1 1 0
		new 0 -2 -1 -> fail -1 -1 1 0`)
	for id, want := range []api.Set{cpuset.Of(0, 1, 2, 700), cpuset.Of(0), cpuset.Of(1, 2), cpuset.Of(0, 1)} {
		if x, ok := m.Task(id); !ok || x.Mask != want || m.Mask(id) != want {
			t.Error(id, cpuset.Print(x.Mask), cpuset.Print(m.Mask(id)))
		}
	}
	for _, n := range wrongs[1:] {
		if e := m.Do(api.Entry{Kind: api.EnNew, B: n, C: -1}); e != api.ErrArg {
			t.Error(n, e)
		}
	}
}

func TestWorkersOfTask(t *testing.T) { // P20.2: its own, its pin alone, and of them its bubble's, and those round it
	x := tree(t, wide)
	c := config(t, busyCode)
	c.Masks = append(c.Masks, cpuset.Of(1, 700), cpuset.Of(0, 1, 700))
	m := machine(t, x, c)
	want := func(id int, workers ...int) {
		t.Helper()
		if s := m.Mask(id); s != cpuset.Of(workers...) {
			t.Error(cpuset.Print(s), workers)
		}
	}
	play(t, m, x, c, `
		new 0 -1 -1 -> new 0 -1 0 -1 | ready 0 -1 0 0
		bubble -1 6 -> bubble -1 -1 0 1
		bubble 0 1 -> bubble -1 -1 1 1`)
	want(0, 0, 1, 2, 700)
	play(t, m, x, c, `put 0 1 -> mask 0 -1 3 0 | hold 0 -1 1 0`)
	want(0, 1)
	play(t, m, x, c, `pin 0 1 -> mask 0 -1 2 0`)
	want(0, 1)
	play(t, m, x, c, `pin 0 2 -> mask 0 -1 2 0`)
	want(0)
	play(t, m, x, c, `
		mask 0 0 -> fail -1 -1 6 0
		mask 0 1 -> mask 0 -1 1 0
		pin 0 700 -> fail -1 -1 6 0
		unpin 0 -> mask 0 -1 2 0`)
	want(0, 1)
	if task, _ := m.Task(0); task.Mask != cpuset.Of(1, 2) || task.Pin != -1 || task.Bubble != 1 {
		t.Error(task)
	}
}

func TestStamps(t *testing.T) { // P20.2: each new one is greater than all ahead; what says so keeps its old one, and is moved
	x := tree(t, wide)
	c := config(t, "yield, jump 0")
	m := machine(t, x, c)
	ready := func(d, id int) api.Ready {
		t.Helper()
		for _, r := range m.Queue(d) {
			if r.Task == id {
				return r
			}
		}
		t.Fatal(d, id)
		return api.Ready{}
	}
	play(t, m, x, c, `
		offline 0 -> offline -1 0 0 0
		new 0 0 -1 -> new 0 -1 0 -1 | park 0 -1 0 0
		new 0 -1 -1 -> new 1 -1 0 -1 | ready 1 -1 0 0
		new 0 -1 -1 -> new 2 -1 0 -1 | ready 2 -1 0 0
		online 0 -> online -1 0 0 0 | ready 0 -1 2 0`)
	first, second, third := ready(0, 1), ready(0, 2), ready(2, 0)
	if first.Stamp >= second.Stamp || second.Stamp >= third.Stamp || first.Stamp < 0 || first.Moved || third.Moved {
		t.Error(first, second, third)
	}
	play(t, m, x, c, `
		step 1 -> dispatch 1 1 0 0
		step 1 -> ins 1 1 6 0 | stop 1 1 2 0 | ready 1 -1 3 0
		mask 1 4 -> mask 1 -1 1 0
		offline 1 -> offline -1 1 0 0 | ready 1 -1 1 0`)
	fourth := ready(1, 1)
	if fourth.Stamp <= third.Stamp || !fourth.Moved || fourth.Mask != cpuset.Of(0, 1) {
		t.Error(fourth)
	}
	play(t, m, x, c, `mask 1 1 -> mask 1 -1 1 0 | ready 1 -1 0 0`)
	if r := ready(0, 1); r.Stamp != fourth.Stamp || !r.Moved || r.Mask != cpuset.Of(1, 2) {
		t.Error(r, fourth)
	}
	play(t, m, x, c, `
		step 2 -> dispatch 2 2 0 0
		step 2 -> ins 2 2 6 0 | stop 2 2 2 0 | ready 2 -1 4 0
		step 2 -> dispatch 1 2 0 0
		step 2 -> ins 1 2 4 1
		step 2 -> ins 1 2 6 0 | stop 1 2 2 0 | ready 1 -1 4 0`)
	if a, b := ready(4, 2), ready(4, 1); a.Stamp <= fourth.Stamp || b.Stamp <= a.Stamp || b.Moved {
		t.Error(a, b)
	}
}

func TestStep(t *testing.T) { // P20.3
	m := stage(t, config(t, busyCode), `
		new 0 0 1 -> new 0 -1 0 -1 | ready 0 -1 0 0
		new 0 -1 0 -> new 1 -1 0 -1 | ready 1 -1 0 0
		step -1 -> fail -1 -1 1 0
		step 3 -> fail -1 -1 1 0
		step 1024 -> fail -1 -1 1 0
		offline 700 -> offline -1 700 0 0
		step 700 -> fail -1 -1 5 0
		step 2 -> dispatch 1 2 0 0
		step 1 -> idle -1 1 0 0
		step 0 -> dispatch 0 0 0 0`)
	for id, want := range []api.Task{{Last: 2, On: 0}, {Last: 4, On: 2}} {
		if x, ok := m.Task(id); !ok || x.Last != want.Last || x.On != want.On || x.State != api.Running {
			t.Error(x)
		}
	}
	for _, cpu := range wrongs {
		if e := m.Do(api.Entry{Kind: api.EnStep, A: cpu}); e != api.ErrArg {
			t.Error(cpu, e)
		}
	}
}

func TestPicks(t *testing.T) { // P20.3: by a picker of its own, which counts, and by the draw
	c := config(t, "yield, jump 0")
	stage(t, c, `
		new 0 -1 -1 -> new 0 -1 0 -1 | ready 0 -1 0 0
		new 0 -1 -1 -> new 1 -1 0 -1 | ready 1 -1 0 0
		step 0 -> dispatch 0 0 0 0
		step 0 -> ins 0 0 6 0 | stop 0 0 2 0 | ready 0 -1 2 0
		step 0 -> dispatch 0 0 2 0
		step 0 -> ins 0 0 4 1
		step 0 -> ins 0 0 6 0 | stop 0 0 2 0 | ready 0 -1 2 0
		step 0 -> dispatch 1 0 0 0`)
	four := "domain m { domain a cpus 0; domain b cpus 1; domain c cpus 2; domain d cpus 3; }"
	for _, last := range []string{"step 0 0 -> dispatch 0 0 2 0", "step 0 1 -> dispatch 1 0 3 0", "step 0 2 -> dispatch 2 0 4 0", "step 0 3 -> dispatch 0 0 2 0"} { // the ring of a: b, c, d
		x := tree(t, four)
		play(t, machine(t, x, c), x, c, `
			new 0 -1 -1 -> new 0 -1 0 -1 | ready 0 -1 0 0
			new 0 -1 -1 -> new 1 -1 0 -1 | ready 1 -1 0 0
			new 0 -1 -1 -> new 2 -1 0 -1 | ready 2 -1 0 0
			step 1 -> dispatch 0 1 0 0
			step 1 -> ins 0 1 6 0 | stop 0 1 2 0 | ready 0 -1 2 0
			step 2 -> dispatch 1 2 0 0
			step 2 -> ins 1 2 6 0 | stop 1 2 2 0 | ready 1 -1 3 0
			step 3 -> dispatch 2 3 0 0
			step 3 -> ins 2 3 6 0 | stop 2 3 2 0 | ready 2 -1 4 0
			`+last)
	}
	m := stage(t, c, "new 0 -1 -1 -> new 0 -1 0 -1 | ready 0 -1 0 0")
	if e := m.Do(api.Entry{Kind: api.EnStep, A: 1, Draw: math.MaxUint}); e != api.OK {
		t.Error(e)
	}
}

func TestTick(t *testing.T) { // P20.3: those that are due, in their order, go home from where they were last
	c := config(t, "set r0 2, sleep r0, yield, jump 0", "set r0 1, sleep r0, yield, jump 0")
	m := stage(t, c, `
		new 0 0 -1 -> new 0 -1 0 -1 | ready 0 -1 0 0
		new 0 1 -1 -> new 1 -1 0 -1 | ready 1 -1 0 0
		new 1 -1 -1 -> new 2 -1 1 -1 | ready 2 -1 0 0
		step 1 -> dispatch 1 1 0 0
		step 0 -> dispatch 0 0 0 0
		step 700 -> dispatch 2 700 0 0
		step 1 -> ins 1 1 1 0
		step 0 -> ins 0 0 1 0
		step 700 -> ins 2 700 1 0
		step 1 -> ins 1 1 11 1 | stop 1 1 3 0 | wait 1 1 3 2
		step 0 -> ins 0 0 11 1 | stop 0 0 3 0 | wait 0 0 3 2
		tick -> tick -1 -1 1 0
		step 700 -> ins 2 700 11 1 | stop 2 700 3 0 | wait 2 700 3 2
		step 700 -> idle -1 700 0 0
		tick -> tick -1 -1 2 0 | ready 1 -1 3 0 | ready 0 -1 2 0 | ready 2 -1 4 0
		tick -> tick -1 -1 3 0`)
	if m.Time() != 3 {
		t.Error(m.Time())
	}
}

func TestSleep(t *testing.T) { // P20.4: at least 1 tick, at most MaxTime
	for text, on := range map[string]string{"set r0 0": "4", "set r0 -1": "4", "set r0 -2147483648": "4", "set r0 1": "4", "set r0 2": "5", "set r0 1048575": "1048578", "set r0 1048576": "1048579", "set r0 1048577": "1048579", "set r0 2147483647": "1048579"} {
		m := stage(t, config(t, text+", sleep r0, exit r0"), `
			new 0 -1 -1 -> new 0 -1 0 -1 | ready 0 -1 0 0
			tick -> tick -1 -1 1 0
			tick -> tick -1 -1 2 0
			tick -> tick -1 -1 3 0
			step 1 -> dispatch 0 1 0 0
			step 1 -> ins 0 1 1 0
			step 1 -> ins 0 1 11 1 | stop 0 1 3 0 | wait 0 1 3 `+on)
		if x, _ := m.Task(0); x.State != api.Sleeping || x.Reg != 0 || x.Last != 3 {
			t.Error(x)
		}
	}
}

func TestLastTick(t *testing.T) { // P20.3
	x := tree(t, "domain m cpus 0;")
	c := config(t, "set r0 2147483647, sleep r0, exit r0")
	m := machine(t, x, c)
	play(t, m, x, c, `
		new 0 -1 -1 -> new 0 -1 0 -1 | ready 0 -1 0 0
		step 0 -> dispatch 0 0 0 0
		step 0 -> ins 0 0 1 0
		step 0 -> ins 0 0 11 1 | stop 0 0 3 0 | wait 0 0 3 1048576`)
	for range api.MaxTime - 1 {
		if e := m.Do(api.Entry{Kind: api.EnTick}); e != api.OK {
			t.Fatal(e)
		}
	}
	m.Events()
	play(t, m, x, c, `
		tick -> tick -1 -1 1048576 0 | ready 0 -1 0 0
		tick -> fail -1 -1 2 0
		tick -> fail -1 -1 2 0`)
}

func TestLoads(t *testing.T) { // P20.3: of those that wait in a domain's queue, and run on its own workers
	m := stage(t, config(t, busyCode), `
		new 0 -1 -1 -> new 0 -1 0 -1 | ready 0 -1 0 0
		new 0 -1 -1 -> new 1 -1 0 -1 | ready 1 -1 0 0
		new 0 -1 -1 -> new 2 -1 0 -1 | ready 2 -1 0 0
		new 0 -1 -1 -> new 3 -1 0 -1 | ready 3 -1 0 0
		step 0 -> dispatch 0 0 0 0
		step 2 -> dispatch 1 2 0 0
		step 700 -> dispatch 2 700 0 0
		pin 2 2 -> mask 2 -1 2 0 | stop 2 700 5 0 | ready 2 -1 4 0
		tick -> tick -1 -1 1 0`)
	if l := m.Loads(); !slices.Equal(l, []int{256, 64, 64, 0, 128}) { // m has 4: one in its own queue
		t.Error(l)
	}
	m.Do(entry(t, "tick"))
	if l := m.Loads(); !slices.Equal(l, []int{448, 112, 112, 0, 224}) {
		t.Error(l)
	}
}

func TestLoadsOfSleepers(t *testing.T) { // P20.3: what is due waits already when the loads are told
	m := stage(t, config(t, "sleep r0, exit r0"), `
		new 0 0 -1 -> new 0 -1 0 -1 | ready 0 -1 0 0
		step 0 -> dispatch 0 0 0 0
		step 0 -> ins 0 0 11 0 | stop 0 0 3 0 | wait 0 0 3 1
		tick -> tick -1 -1 1 0 | ready 0 -1 2 0`)
	if l := m.Loads(); !slices.Equal(l, []int{64, 64, 64, 0, 0}) {
		t.Error(l)
	}
}

func TestStart(t *testing.T) { // P20.3: EnNew
	c := config(t, busyCode)
	c.Progs = append(c.Progs, code(t, 2, "exit r0"))
	c.Room = 4
	m := stage(t, c, `
		new -1 2 4 -> fail -1 -1 1 0
		new 2 3 -1 -> fail -1 -1 1 0
		new 0 2 4 -> fail -1 -1 6 0
		new 0 5 4 -> fail -1 -1 1 0
		new 0 -1 4 -> fail -1 -1 1 0
		new 0 -1 -2 -> fail -1 -1 1 0
		new 1 -1 -1 -> new 0 -1 1 -1 | ready 0 -1 0 0
		new 1 0 0 -> new 1 -1 1 -1 | ready 1 -1 0 0
		offline 0 -> offline -1 0 0 0 | park 1 -1 0 0
		new 0 0 3 -> new 2 -1 0 -1 | park 2 -1 0 0
		new 0 -1 -1 -> new 3 -1 0 -1 | ready 3 -1 0 0
		new 0 -1 -1 -> fail -1 -1 4 0
		new 0 2 -1 -> fail -1 -1 6 0
		new 0 -1 9 -> fail -1 -1 1 0
		new 9 -1 -1 -> fail -1 -1 1 0`)
	all := cpuset.Of(0, 1, 2, 700)
	want := []api.Task{
		{Prog: 1, Prio: 2, Mask: all, Pin: -1, Bubble: -1, State: api.Waiting},
		{Prog: 1, Mask: cpuset.Of(0), Pin: -1, Bubble: -1, State: api.Parked},
		{Prio: 3, Mask: cpuset.Of(0), Pin: -1, Bubble: -1, State: api.Parked},
		{Mask: all, Pin: -1, Bubble: -1, State: api.Waiting},
	}
	if got := look(m, tree(t, wide)).Tasks; !slices.Equal(got, want) || m.Tasks() != 4 {
		t.Error(got)
	}
	for _, n := range wrongs {
		if e := m.Do(api.Entry{Kind: api.EnNew, A: n, B: -1, C: -1}); e != api.ErrArg {
			t.Error(n, e)
		}
	}
	for _, n := range wrongs[1:] { // -1 is the program's priority
		if e := m.Do(api.Entry{Kind: api.EnNew, B: -1, C: n}); e != api.ErrArg {
			t.Error(n, e)
		}
	}
}

func TestOthers(t *testing.T) { // P20.3: kinds that are none's
	m := stage(t, config(t, busyCode), "new 0 -1 -1 -> new 0 -1 0 -1 | ready 0 -1 0 0")
	for _, kind := range append([]int{0, api.EnBalance + 1}, wrongs...) {
		before := look(m, tree(t, wide))
		m.Events()
		if e := m.Do(api.Entry{Kind: kind, B: -1, C: -1}); e != api.ErrArg || !slices.Equal(m.Events(), []api.Event{{Kind: api.EvFail, Task: -1, Cpu: -1, A: 1}}) {
			t.Error(kind, e)
		}
		if !reflect.DeepEqual(before, look(m, tree(t, wide))) {
			t.Error(kind)
		}
	}
}

func TestNoSuchTask(t *testing.T) { // P20.3: ErrNone, or ErrState if it has exited, ahead of all else
	m := stage(t, config(t, "exit r0"), `
		new 0 -1 -1 -> new 0 -1 0 -1 | ready 0 -1 0 0
		bubble -1 -1 -> bubble -1 -1 0 1
		step 0 -> dispatch 0 0 0 0
		step 0 -> ins 0 0 14 0 | stop 0 0 7 0 | exit 0 -1 0 0
		mask 0 9 -> fail -1 -1 5 0
		mask 0 -1 -> fail -1 -1 5 0
		pin 0 9 -> fail -1 -1 5 0
		pin 0 0 -> fail -1 -1 5 0
		unpin 0 -> fail -1 -1 5 0
		put 0 9 -> fail -1 -1 5 0
		put 0 0 -> fail -1 -1 5 0
		mask 1 9 -> fail -1 -1 3 0
		pin 1 9 -> fail -1 -1 3 0
		unpin 1 -> fail -1 -1 3 0
		put 1 9 -> fail -1 -1 3 0`)
	for _, n := range wrongs {
		for _, kind := range []int{api.EnMask, api.EnPin, api.EnUnpin, api.EnPut} {
			if e := m.Do(api.Entry{Kind: kind, A: n, B: n}); e != api.ErrNone {
				t.Error(kind, n, e)
			}
		}
	}
}
