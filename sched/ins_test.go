package sched_test

import (
	"reflect"
	"slices"
	"testing"

	"pinfold/api"
	"pinfold/cpuset"
	"pinfold/sched"
)

func TestYieldAndOut(t *testing.T) { // P20.4
	m := stage(t, config(t, "set r3 -7, out r3, yield, jump 1"), `
		new 0 -1 -1 -> new 0 -1 0 -1 | ready 0 -1 0 0
		step 1 -> dispatch 0 1 0 0
		step 1 -> ins 0 1 1 0
		step 1 -> ins 0 1 13 1 | out 0 1 -7 0
		step 1 -> ins 0 1 6 2 | stop 0 1 2 0 | ready 0 -1 3 0
		step 1 -> dispatch 0 1 3 0
		step 1 -> ins 0 1 4 3`)
	if x, _ := m.Task(0); x.Pc != 1 || x.Regs != [4]int32{3: -7} || x.State != api.Running || x.On != 1 || x.Last != 3 {
		t.Error(x)
	}
}

func TestQuantum(t *testing.T) { // P20.4: counted since the dispatch, and of a task that still runs alone
	stage(t, config(t, "set r1 1, set r1 2, set r1 3, yield, set r1 4, set r1 5, set r1 6, exit r1", "set r1 1, out r1, set r1 2, out r1, spawn r0 9, join r0 r1, lock r2 5, out r2, exit r0"), `
		new 0 0 -1 -> new 0 -1 0 -1 | ready 0 -1 0 0
		new 1 1 -1 -> new 1 -1 1 -1 | ready 1 -1 0 0
		step 0 -> dispatch 0 0 0 0
		step 0 -> ins 0 0 1 0
		step 1 -> dispatch 1 1 0 0
		step 0 -> ins 0 0 1 1
		step 0 -> ins 0 0 1 2
		step 0 -> ins 0 0 6 3 | stop 0 0 2 0 | ready 0 -1 2 0
		step 0 -> dispatch 0 0 2 0
		step 0 -> ins 0 0 1 4
		step 0 -> ins 0 0 1 5
		step 0 -> ins 0 0 1 6
		step 0 -> ins 0 0 14 7 | stop 0 0 7 0 | exit 0 -1 6 0
		step 1 -> ins 1 1 1 0
		step 1 -> ins 1 1 13 1 | out 1 1 1 0
		step 1 -> ins 1 1 1 2
		step 1 -> ins 1 1 13 3 | out 1 1 2 0 | stop 1 1 1 0 | ready 1 -1 3 0
		step 1 -> dispatch 1 1 3 0
		step 1 -> ins 1 1 7 4 | reg 1 -1 0 -1
		step 1 -> ins 1 1 8 5 | reg 1 -1 1 -3
		step 1 -> ins 1 1 9 6 | reg 1 -1 2 -3
		step 1 -> ins 1 1 13 7 | out 1 1 -3 0 | stop 1 1 1 0 | ready 1 -1 3 0`)
	stage(t, config(t, busyCode), `
		new 0 -1 -1 -> new 0 -1 0 -1 | ready 0 -1 0 0
		step 0 -> dispatch 0 0 0 0
		step 0 -> ins 0 0 1 0
		pin 0 1 -> mask 0 -1 2 0 | stop 0 0 5 0 | ready 0 -1 1 0
		step 1 -> dispatch 0 1 1 0
		step 1 -> ins 0 1 2 1
		step 1 -> ins 0 1 3 2
		mask 0 4 -> mask 0 -1 1 0
		step 1 -> ins 0 1 1 3
		step 1 -> ins 0 1 1 4 | stop 0 1 1 0 | ready 0 -1 3 0`)
}

func TestSpawn(t *testing.T) { // P20.4
	x := tree(t, wide)
	c := config(t, "spawn r1 1, spawn r2 2, spawn r3 1, spawn r0 1, spawn r0 7, exit r1")
	c.Progs = append(c.Progs, code(t, 2, "exit r0"))
	c.Room = 3
	m := machine(t, x, c)
	play(t, m, x, c, `
		new 0 4 3 -> new 0 -1 0 -1 | ready 0 -1 0 0
		bubble -1 -1 -> bubble -1 -1 0 1
		put 0 0 -> mask 0 -1 3 0 | hold 0 -1 0 0
		seal 0 -> bubble -1 -1 0 2
		place 0 0 -> bubble -1 -1 0 3
		burst 0 -> bubble -1 -1 0 4 | ready 0 -1 0 0
		pin 0 0 -> mask 0 -1 2 0
		step 0 -> dispatch 0 0 0 0
		step 0 -> ins 0 0 7 0 | new 1 -1 1 0 | ready 1 -1 2 0 | reg 0 -1 1 1
		step 0 -> ins 0 0 7 1 | reg 0 -1 2 -1
		step 0 -> ins 0 0 7 2 | new 2 -1 1 0 | ready 2 -1 1 0 | reg 0 -1 3 2
		step 0 -> ins 0 0 7 3 | reg 0 -1 0 -4 | stop 0 0 1 0 | ready 0 -1 1 0
		step 1 -> dispatch 2 1 1 0`)
	want := []api.Task{
		{Pc: 4, Regs: [4]int32{-4, 1, -1, 2}, Prio: 3, Mask: cpuset.Of(0, 1), Pin: 0, State: api.Waiting, On: 1, Last: 2},
		{Prog: 1, Prio: 2, Mask: cpuset.Of(0, 1), Pin: -1, State: api.Waiting, On: 2},
		{Prog: 1, Prio: 2, Mask: cpuset.Of(0, 1), Pin: -1, State: api.Running, On: 1, Last: 3},
	}
	if got := look(m, x).Tasks; !slices.Equal(got, want) {
		t.Error(got)
	}
	play(t, m, x, c, `
		step 0 -> dispatch 0 0 1 0
		step 0 -> ins 0 0 7 4 | reg 0 -1 0 -1`)
}

func TestJoin(t *testing.T) { // P20.4
	m := stage(t, oneEach(t, "set r1 2, join r1 r2, out r2, exit r2", "set r1 2, join r1 r1, out r1, exit r0", "set r0 7, yield, exit r0", "set r0 3, join r0 r1, set r0 9, join r0 r1, set r0 -1, join r0 r2, set r0 2, join r0 r3, exit r3"), `
		new 0 0 -1 -> new 0 -1 0 -1 | ready 0 -1 0 0
		new 1 1 -1 -> new 1 -1 1 -1 | ready 1 -1 0 0
		new 2 2 -1 -> new 2 -1 2 -1 | ready 2 -1 0 0
		new 3 3 -1 -> new 3 -1 3 -1 | ready 3 -1 0 0
		step 1 -> dispatch 1 1 0 0
		step 1 -> ins 1 1 1 0
		step 1 -> ins 1 1 8 1 | stop 1 1 3 0 | wait 1 1 5 2
		step 0 -> dispatch 0 0 0 0
		step 0 -> ins 0 0 1 0
		step 0 -> ins 0 0 8 1 | stop 0 0 3 0 | wait 0 0 5 2
		step 2 -> dispatch 2 2 0 0
		step 2 -> ins 2 2 1 0
		step 2 -> ins 2 2 6 1 | stop 2 2 2 0 | ready 2 -1 4 0
		step 700 -> dispatch 3 700 0 0
		step 700 -> ins 3 700 1 0
		step 700 -> ins 3 700 8 1 | reg 3 -1 1 -1
		step 2 -> dispatch 2 2 4 0`)
	for id, want := range []api.Task{{State: api.Joining, On: 2, Reg: 2, Last: 2}, {State: api.Joining, On: 2, Reg: 1, Last: 3}} {
		if x, _ := m.Task(id); x.State != want.State || x.On != want.On || x.Reg != want.Reg || x.Last != want.Last {
			t.Error(x)
		}
	}
	play(t, m, tree(t, wide), oneEach(t, "set r1 2, join r1 r2, out r2, exit r2", "set r1 2, join r1 r1, out r1, exit r0", "set r0 7, yield, exit r0", "set r0 3, join r0 r1, set r0 9, join r0 r1, set r0 -1, join r0 r2, set r0 2, join r0 r3, exit r3"), `
		step 2 -> ins 2 2 14 2 | stop 2 2 7 0 | exit 2 -1 7 0 | reg 1 -1 1 7 | ready 1 -1 3 0 | reg 0 -1 2 7 | ready 0 -1 2 0
		step 700 -> ins 3 700 1 2
		step 700 -> ins 3 700 8 3 | reg 3 -1 1 -3 | stop 3 700 1 0 | ready 3 -1 4 0
		step 700 -> dispatch 3 700 4 0
		step 700 -> ins 3 700 1 4
		step 700 -> ins 3 700 8 5 | reg 3 -1 2 -3
		step 700 -> ins 3 700 1 6
		step 700 -> ins 3 700 8 7 | reg 3 -1 3 7 | stop 3 700 1 0 | ready 3 -1 4 0
		step 1 -> dispatch 1 1 3 0
		step 1 -> ins 1 1 13 2 | out 1 1 7 0`)
}

func TestLocks(t *testing.T) { // P20.4: the example of the whole: a pass stays in the socket
	x := tree(t, wide)
	c := oneEach(t, "lock r0 0, unlock r1 0, exit r0")
	m := machine(t, x, c)
	play(t, m, x, c, `
		new 0 0 -1 -> new 0 -1 0 -1 | ready 0 -1 0 0
		new 0 2 -1 -> new 1 -1 0 -1 | ready 1 -1 0 0
		new 0 1 -1 -> new 2 -1 0 -1 | ready 2 -1 0 0
		step 0 -> dispatch 0 0 0 0
		step 2 -> dispatch 1 2 0 0
		step 1 -> dispatch 2 1 0 0
		step 0 -> ins 0 0 9 0 | own 0 -1 0 1 | reg 0 -1 0 0
		step 2 -> ins 1 2 9 0 | stop 1 2 3 0 | wait 1 2 4 0
		step 1 -> ins 2 1 9 0 | stop 2 1 3 0 | wait 2 1 4 0`)
	if owner, waiting, ok := m.Lock(0); owner != 0 || !slices.Equal(waiting, []int{1, 2}) || !ok {
		t.Error(owner, waiting, ok)
	}
	if owner, waiting, ok := m.Lock(1); owner != -1 || len(waiting) > 0 || !ok {
		t.Error(owner, waiting, ok)
	}
	play(t, m, x, c, `
		step 0 -> ins 0 0 10 1 | free 0 -1 0 0 | reg 0 -1 1 0 | own 2 -1 0 1 | reg 2 -1 0 0 | ready 2 -1 3 0
		step 1 -> dispatch 2 1 3 0
		offline 2 -> offline -1 2 0 0
		step 1 -> ins 2 1 10 1 | free 2 -1 0 0 | reg 2 -1 1 0 | own 1 -1 0 4 | reg 1 -1 0 0 | park 1 -1 0 0
		online 2 -> online -1 2 0 0 | ready 1 -1 4 0
		step 2 -> dispatch 1 2 4 0
		step 2 -> ins 1 2 10 1 | free 1 -1 0 0 | reg 1 -1 1 0`)
	if owner, waiting, ok := m.Lock(0); owner != -1 || len(waiting) > 0 || !ok {
		t.Error(owner, waiting, ok)
	}
}

func TestLockErrors(t *testing.T) { // P20.4
	stage(t, config(t, "lock r1 2, lock r1 1, lock r2 1, unlock r3 0, unlock r0 2, unlock r0 1, unlock r0 1, exit r0"), `
		new 0 -1 -1 -> new 0 -1 0 -1 | ready 0 -1 0 0
		step 2 -> dispatch 0 2 0 0
		step 2 -> ins 0 2 9 0 | reg 0 -1 1 -3
		step 2 -> ins 0 2 9 1 | own 0 -1 1 4 | reg 0 -1 1 0
		step 2 -> ins 0 2 9 2 | reg 0 -1 2 -8
		step 2 -> ins 0 2 10 3 | reg 0 -1 3 -8 | stop 0 2 1 0 | ready 0 -1 4 0
		step 2 -> dispatch 0 2 4 0
		step 2 -> ins 0 2 10 4 | reg 0 -1 0 -3
		step 2 -> ins 0 2 10 5 | free 0 -1 1 0 | reg 0 -1 0 0
		step 2 -> ins 0 2 10 6 | reg 0 -1 0 -8`)
}

func TestLockOfTheWholeTree(t *testing.T) { // P20.4: the socket of a machine of one domain is 0
	x := tree(t, "domain m cpus 0;")
	c := config(t, "lock r0 0, exit r0")
	play(t, machine(t, x, c), x, c, `
		new 0 -1 -1 -> new 0 -1 0 -1 | ready 0 -1 0 0
		step 0 -> dispatch 0 0 0 0
		step 0 -> ins 0 0 9 0 | own 0 -1 0 0 | reg 0 -1 0 0`)
}

func TestLockOnTheFourth(t *testing.T) { // P20.4: who waits doesn't run, so no quantum ends
	stage(t, oneEach(t, "lock r0 0, exit r0", "set r1 1, set r1 2, set r1 3, lock r0 0, exit r0"), `
		new 0 0 -1 -> new 0 -1 0 -1 | ready 0 -1 0 0
		new 1 1 -1 -> new 1 -1 1 -1 | ready 1 -1 0 0
		step 0 -> dispatch 0 0 0 0
		step 0 -> ins 0 0 9 0 | own 0 -1 0 1 | reg 0 -1 0 0
		step 1 -> dispatch 1 1 0 0
		step 1 -> ins 1 1 1 0
		step 1 -> ins 1 1 1 1
		step 1 -> ins 1 1 1 2
		step 1 -> ins 1 1 9 3 | stop 1 1 3 0 | wait 1 1 4 0
		step 0 -> ins 0 0 14 1 | stop 0 0 7 0 | exit 0 -1 0 0 | free 0 -1 0 0 | own 1 -1 0 1 | reg 1 -1 0 0 | ready 1 -1 3 0
		step 1 -> dispatch 1 1 3 0
		step 1 -> ins 1 1 14 4 | stop 1 1 7 0 | exit 1 -1 0 0 | free 1 -1 0 0`)
}

func TestMaskInstruction(t *testing.T) { // P20.4
	m := stage(t, config(t, "mask r1 9, mask r2 2, mask r3 4, mask r0 1, mask r0 1, exit r0"), `
		new 0 -1 -1 -> new 0 -1 0 -1 | ready 0 -1 0 0
		step 0 -> dispatch 0 0 0 0
		step 0 -> ins 0 0 12 0 | reg 0 -1 1 -1
		step 0 -> ins 0 0 12 1 | reg 0 -1 2 -6
		step 0 -> ins 0 0 12 2 | mask 0 -1 1 0 | reg 0 -1 3 0
		step 0 -> ins 0 0 12 3 | mask 0 -1 1 0 | reg 0 -1 0 0 | stop 0 0 5 0 | ready 0 -1 1 0
		step 1 -> dispatch 0 1 1 0
		pin 0 1 -> mask 0 -1 2 0
		step 1 -> ins 0 1 12 4 | mask 0 -1 1 0 | reg 0 -1 0 0`)
	if x, _ := m.Task(0); x.Mask != cpuset.Of(1, 2) || x.Pin != 1 {
		t.Error(x)
	}
	stage(t, config(t, "mask r1 0, mask r1 4, exit r0"), `
		new 0 -1 -1 -> new 0 -1 0 -1 | ready 0 -1 0 0
		pin 0 1 -> mask 0 -1 2 0
		step 1 -> dispatch 0 1 0 0
		step 1 -> ins 0 1 12 0 | reg 0 -1 1 -6
		step 1 -> ins 0 1 12 1 | mask 0 -1 1 0 | reg 0 -1 1 0`)
	stage(t, config(t, "mask r1 0, exit r0"), `
		offline 0 -> offline -1 0 0 0
		new 0 -1 -1 -> new 0 -1 0 -1 | ready 0 -1 0 0
		step 1 -> dispatch 0 1 0 0
		step 1 -> ins 0 1 12 0 | mask 0 -1 1 0 | reg 0 -1 1 0 | stop 0 1 5 0 | park 0 -1 0 0`)
}

func TestExit(t *testing.T) { // P20.4: the locks that it has, lock by lock, then those that wait for it, in order
	x := tree(t, wide)
	c := oneEach(t, "lock r0 1, lock r0 0, yield, set r0 -5, exit r0", "join r0 r3, exit r3", "lock r2 1, exit r0", "lock r1 0, exit r0")
	c.Locks = 3
	m := machine(t, x, c)
	play(t, m, x, c, `
		new 0 0 -1 -> new 0 -1 0 -1 | ready 0 -1 0 0
		new 1 1 -1 -> new 1 -1 1 -1 | ready 1 -1 0 0
		new 2 1 -1 -> new 2 -1 2 -1 | ready 2 -1 0 0
		new 3 1 -1 -> new 3 -1 3 -1 | ready 3 -1 0 0
		new 1 3 -1 -> new 4 -1 1 -1 | ready 4 -1 0 0
		step 700 -> dispatch 4 700 0 0
		step 700 -> ins 4 700 8 0 | stop 4 700 3 0 | wait 4 700 5 0
		step 0 -> dispatch 0 0 0 0
		step 0 -> ins 0 0 9 0 | own 0 -1 1 1 | reg 0 -1 0 0
		step 0 -> ins 0 0 9 1 | own 0 -1 0 1 | reg 0 -1 0 0
		step 0 -> ins 0 0 6 2 | stop 0 0 2 0 | ready 0 -1 2 0
		step 1 -> dispatch 1 1 0 0
		step 1 -> ins 1 1 8 0 | stop 1 1 3 0 | wait 1 1 5 0
		step 1 -> dispatch 2 1 0 0
		step 1 -> ins 2 1 9 0 | stop 2 1 3 0 | wait 2 1 4 1
		step 1 -> dispatch 3 1 0 0
		step 1 -> ins 3 1 9 0 | stop 3 1 3 0 | wait 3 1 4 0
		step 0 -> dispatch 0 0 2 0
		step 0 -> ins 0 0 1 3
		step 0 -> ins 0 0 14 4 | stop 0 0 7 0 | exit 0 -1 -5 0 | free 0 -1 0 0 | own 3 -1 0 1 | reg 3 -1 1 0 | ready 3 -1 3 0 | free 0 -1 1 0 | own 2 -1 1 1 | reg 2 -1 2 0 | ready 2 -1 3 0 | reg 4 -1 3 -5 | ready 4 -1 4 0 | reg 1 -1 3 -5 | ready 1 -1 3 0
		step 0 -> idle -1 0 0 0
		mask 0 -1 -> fail -1 -1 5 0`)
	if y, ok := m.Task(0); !ok || y != (api.Task{Pc: 4, Regs: [4]int32{-5}, Mask: cpuset.Of(0), Pin: -1, Bubble: -1, State: api.Exited, On: -5, Last: 2}) {
		t.Error(y)
	}
	if s := m.Mask(0); s != cpuset.Of(0) {
		t.Error(s)
	}
}

func TestNoMachine(t *testing.T) { // P20.5
	var m *sched.Machine
	for kind := range api.EnBalance + 2 {
		if e := m.Do(api.Entry{Kind: kind}); e != api.ErrArg {
			t.Error(kind, e)
		}
	}
	if l := m.Events(); len(l) > 0 {
		t.Error(l)
	}
	if got := look(m, tree(t, wide)); !reflect.DeepEqual(got, view{Queues: make([][]api.Ready, 5), Running: map[int]int{}}) {
		t.Errorf("%+v", got)
	}
	if owner, waiting, ok := m.Lock(0); owner != -1 || waiting != nil || ok {
		t.Error(owner, waiting, ok)
	}
	if id, ok := m.Running(0); id != 0 || ok {
		t.Error(id, ok)
	}
	if x, ok := m.Task(0); x != (api.Task{}) || ok || m.Mask(0) != (api.Set{}) {
		t.Error(x, ok)
	}
	if x, ok := m.Bubble(0); x != (api.Bubble{}) || ok {
		t.Error(x, ok)
	}
}

func TestNobodys(t *testing.T) { // P20.5: of numbers that are none's there is nothing
	m := stage(t, config(t, busyCode), `
		new 0 -1 -1 -> new 0 -1 0 -1 | ready 0 -1 0 0
		step 0 -> dispatch 0 0 0 0
		bubble -1 -1 -> bubble -1 -1 0 1`)
	for _, n := range append([]int{5, 6}, wrongs...) {
		x, isTask := m.Task(n)
		id, runs := m.Running(n)
		owner, waiting, isLock := m.Lock(n)
		b, isBubble := m.Bubble(n)
		if x != (api.Task{}) || isTask || m.Mask(n) != (api.Set{}) || len(m.Queue(n)) > 0 || id != 0 || runs || owner != -1 || len(waiting) > 0 || isLock || b != (api.Bubble{}) || isBubble {
			t.Error(n, x, id, runs, owner, waiting, b)
		}
	}
	if _, ok := m.Task(1); ok {
		t.Error("a task 1")
	}
	if _, _, ok := m.Lock(2); ok {
		t.Error("a lock 2")
	}
	if _, ok := m.Bubble(1); ok {
		t.Error("a bubble 1")
	}
	if id, ok := m.Running(1); id != 0 || ok {
		t.Error(id, ok)
	}
	if id, ok := m.Running(0); id != 0 || !ok {
		t.Error(id, ok)
	}
}

func TestEvents(t *testing.T) { // P20.5: all since the last call
	m := machine(t, tree(t, wide), config(t, busyCode))
	for _, text := range []string{"new 0 -1 -1", "tick", "online 0"} {
		m.Do(entry(t, text))
	}
	if l := lines(m.Events()); !slices.Equal(l, []string{"new 0 -1 0 -1", "ready 0 -1 0 0", "tick -1 -1 1 0", "fail -1 -1 5 0"}) {
		t.Error(l)
	}
	if l := m.Events(); len(l) > 0 {
		t.Error(l)
	}
	m.Do(entry(t, "tick"))
	first := m.Events()
	m.Do(entry(t, "tick"))
	if second := m.Events(); len(first) != 1 || len(second) != 1 || first[0].A != 2 || second[0].A != 3 {
		t.Error(first, second)
	}
}

func TestAnswersAreNew(t *testing.T) { // what is answered is new memory
	x := tree(t, wide)
	m := stage(t, oneEach(t, "lock r0 0, exit r0"), `
		new 0 0 -1 -> new 0 -1 0 -1 | ready 0 -1 0 0
		new 0 1 -1 -> new 1 -1 0 -1 | ready 1 -1 0 0
		new 0 1 -1 -> new 2 -1 0 -1 | ready 2 -1 0 0
		step 0 -> dispatch 0 0 0 0
		step 1 -> dispatch 1 1 0 0
		step 0 -> ins 0 0 9 0 | own 0 -1 0 1 | reg 0 -1 0 0
		step 1 -> ins 1 1 9 0 | stop 1 1 3 0 | wait 1 1 4 0
		tick -> tick -1 -1 1 0`)
	before := look(m, x)
	spoilt := look(m, x)
	spoilt.Flat.Tasks[0], spoilt.Flat.Owners[0] = api.FlatTask{}, 9
	spoilt.Queues[0][0], spoilt.Loads[0], spoilt.Waiting[0][0] = api.Ready{}, 9, 9
	_ = append(spoilt.Flat.Tasks, api.FlatTask{})
	if after := look(m, x); !reflect.DeepEqual(before, after) {
		t.Errorf("%+v", after)
	}
}
