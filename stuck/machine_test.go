package stuck_test

import (
	"math/rand"
	"slices"
	"testing"

	"pinfold/api"
	"pinfold/cpuset"
	"pinfold/prog"
	"pinfold/sched"
	"pinfold/stuck"
	"pinfold/topo"
)

// world is a machine of two sockets, and a script for it.
type world struct {
	t     *testing.T
	m     *sched.Machine
	locks int
}

func newWorld(t *testing.T, locks int, texts ...string) world {
	t.Helper()
	x, e, _ := topo.Parse("domain m { domain a { domain a0 cpus 0; domain a1 cpus 1; } domain b { domain b0 cpus 2; domain b1 cpus 3; } }")
	if e != api.OK {
		t.Fatal(e)
	}
	c := api.Config{Room: 16, Locks: locks, Masks: []api.Set{cpuset.Of(0), cpuset.Of(1, 2)}}
	for _, s := range texts {
		p, e, line := prog.Parse(s)
		if e != api.OK {
			t.Fatal(s, e, line)
		}
		c.Progs = append(c.Progs, p)
	}
	m, e := sched.New(x, c)
	if e != api.OK {
		t.Fatal(e)
	}
	return world{t, m, locks}
}

// start lets there be a task of the program, pinned to the worker.
func (w world) start(program, cpu int) {
	w.t.Helper()
	id := w.m.Tasks()
	w.do(api.Entry{Kind: api.EnNew, A: program, B: -1, C: -1}, api.Entry{Kind: api.EnPin, A: id, B: cpu})
}

func (w world) do(l ...api.Entry) {
	w.t.Helper()
	for _, e := range l {
		if x := w.m.Do(e); x != api.OK {
			w.t.Fatal(e, x)
		}
	}
}

// steps lets the worker do so many steps.
func (w world) steps(cpu, n int) {
	w.t.Helper()
	for range n {
		w.do(api.Entry{Kind: api.EnStep, A: cpu})
	}
}

// is holds the machine's waits, and who is stuck, against what is wanted.
func (w world) is(waits []stuck.Wait, tasks []int) {
	w.t.Helper()
	l := stuck.Waits(w.m, w.locks)
	if !slices.Equal(l, waits) {
		w.t.Errorf("Waits: %v, not %v", l, waits)
	}
	if s := stuck.Stuck(l); !slices.Equal(s, tasks) {
		w.t.Errorf("Stuck: %v, not %v", s, tasks)
	}
}

func TestTwoLocks(t *testing.T) { // P27.1: the whole's example 8
	w := newWorld(t, 2, "prog 0\n\tlock r0 0\n\tlock r1 1\n\texit r0\n", "prog 0\n\tlock r0 1\n\tlock r1 0\n\texit r0\n")
	w.start(0, 0)
	w.start(1, 3)
	w.is(nil, nil)
	w.steps(0, 2)
	w.steps(3, 2)
	w.is(nil, nil)
	w.steps(3, 1)
	w.is([]stuck.Wait{{1, 0}}, nil)
	w.steps(0, 1)
	w.is([]stuck.Wait{{0, 1}, {1, 0}}, []int{0, 1})
	w.start(0, 1)
	w.steps(1, 2)
	w.is([]stuck.Wait{{0, 1}, {1, 0}, {2, 0}}, []int{0, 1, 2})
}

func TestJoins(t *testing.T) { // P27.1
	join := func(n string) string { return "prog 0\n\tset r1 " + n + "\n\tjoin r1 r2\n\texit r0\n" }
	w := newWorld(t, 1, join("1"), join("2"), join("0"), join("3"), "prog 0\n\texit r0\n")
	w.start(0, 0)
	w.start(1, 1)
	w.start(4, 2)
	w.start(3, 3) // itself: it doesn't wait
	for cpu := range 4 {
		w.steps(cpu, 1)
	}
	w.steps(1, 2)
	w.is([]stuck.Wait{{1, 2}}, nil)
	w.steps(0, 2)
	w.steps(3, 2)
	w.is([]stuck.Wait{{0, 1}, {1, 2}}, nil)
	w.steps(2, 1)
	w.is([]stuck.Wait{{0, 1}}, nil) // 2 has exited
	w.start(2, 2)
	w.steps(2, 3)
	w.is([]stuck.Wait{{0, 1}, {4, 0}}, nil)
	w.steps(1, 2)
	w.is([]stuck.Wait{{4, 0}}, nil)
}

func TestLocksAndJoins(t *testing.T) { // P27.1: one that waits for the exit of one that waits for its lock; others wait otherwise
	w := newWorld(t, 16, "prog 0\n\tlock r0 15\n\tset r1 1\n\tjoin r1 r2\n\texit r0\n", "prog 0\n\tlock r0 15\n\texit r0\n", "prog 0\n\tset r0 9\n\tsleep r0\n\texit r0\n")
	w.start(0, 0)
	w.start(1, 1)
	w.start(2, 2)
	w.start(2, 3)
	w.steps(0, 2)
	w.steps(1, 2)
	w.steps(2, 3)
	w.is([]stuck.Wait{{1, 0}}, nil)
	w.steps(0, 2)
	w.is([]stuck.Wait{{0, 1}, {1, 0}}, []int{0, 1})
}

func TestLockThatGoesOn(t *testing.T) { // P27.1: who waits waits for who has the lock now
	w := newWorld(t, 1, "prog 0\n\tlock r0 0\n\tyield\n\tunlock r0 0\n\texit r0\n")
	for cpu := range 4 {
		w.start(0, cpu)
		w.steps(cpu, 2)
	}
	w.is([]stuck.Wait{{1, 0}, {2, 0}, {3, 0}}, nil)
	w.steps(0, 3) // it yields, and gives the lock to the other one of its socket
	w.is([]stuck.Wait{{2, 1}, {3, 1}}, nil)
	w.steps(1, 4) // it had to be dispatched first
	w.is([]stuck.Wait{{3, 2}}, nil)
}

func TestNoMachine(t *testing.T) {
	if l := stuck.Waits(nil, 3); len(l) != 0 {
		t.Error(l)
	}
}

// waits is who waits for whom, by a second reading: by the rows of those that wait for locks, and by the joins.
func waits(m *sched.Machine, locks int) []stuck.Wait {
	var l []stuck.Wait
	for n := range locks {
		owner, waiting, _ := m.Lock(n)
		for _, task := range waiting {
			l = append(l, stuck.Wait{Task: task, On: owner})
		}
	}
	for task := range m.Tasks() {
		if x, _ := m.Task(task); x.State == api.Joining {
			l = append(l, stuck.Wait{Task: task, On: x.On})
		}
	}
	slices.SortFunc(l, func(a, b stuck.Wait) int { return a.Task - b.Task })
	return l
}

// anyProg is a program that takes locks, gives them back at times, and joins, sleeps and spawns.
func anyProg(r *rand.Rand, locks int) string {
	digit := func(n int) string { return string([]byte{'0' + byte(r.Intn(n))}) }
	s := "prog " + digit(2) + "\n"
	for range 1 + r.Intn(10) {
		switch r.Intn(9) {
		case 0, 1, 2:
			s += "\tlock r0 " + digit(locks) + "\n"
		case 3:
			s += "\tunlock r0 " + digit(locks) + "\n"
		case 4:
			s += "\tset r1 " + digit(9) + "\n\tjoin r1 r2\n"
		case 5:
			s += "\tspawn r1 " + digit(4) + "\n"
		case 6:
			s += "\tset r3 " + digit(3) + "\n\tsleep r3\n"
		case 7:
			s += "\tmask r3 " + digit(2) + "\n"
		case 8:
			s += "\tyield\n"
		}
	}
	return s + "\texit r" + digit(4) + "\n"
}

// anyEntry is one of any kind, mostly a step.
func anyEntry(r *rand.Rand) api.Entry {
	if r.Intn(4) > 0 {
		return api.Entry{Kind: api.EnStep, A: r.Intn(4), Draw: uint(r.Intn(7))}
	}
	return api.Entry{Kind: 1 + r.Intn(15), A: r.Intn(6), B: r.Intn(4) - 1, C: -1}
}

// gone tells what is wrong with a task that was stuck, if it runs or is at an end.
func gone(m *sched.Machine, task int) bool {
	x, ok := m.Task(task)
	return !ok || x.State != api.Blocked && x.State != api.Joining
}

func TestRandomMachines(t *testing.T) { // P27.1 to P27.5
	both, locked, joined := 0, 0, 0
	for seed := range int64(200) {
		r := rand.New(rand.NewSource(seed))
		locks := 1 + r.Intn(6)
		w := newWorld(t, locks, anyProg(r, locks), anyProg(r, locks), anyProg(r, locks), anyProg(r, locks))
		var before []int
		for i := range 250 {
			e := anyEntry(r)
			if i < 8 {
				e = api.Entry{Kind: api.EnNew, A: r.Intn(4), B: r.Intn(3) - 1, C: -1}
			}
			w.m.Do(e)
			l := stuck.Waits(w.m, locks)
			if want := waits(w.m, locks); !slices.Equal(l, want) {
				t.Fatalf("seed %d: Waits: %v, not %v", seed, l, want)
			}
			check(t, l)
			now := stuck.Stuck(l)
			if len(l) == 0 && len(now) > 0 {
				t.Fatalf("seed %d: stuck without a wait: %v", seed, now)
			}
			for _, task := range before {
				if !slices.Contains(now, task) || gone(w.m, task) {
					t.Fatalf("seed %d: task %d was stuck, and isn't", seed, task)
				}
			}
			before = now
		}
		a, b := 0, 0
		for _, task := range before {
			if x, _ := w.m.Task(task); x.State == api.Blocked {
				a++
			} else {
				b++
			}
		}
		locked, joined = locked+a, joined+b
		if a > 0 && b > 0 {
			both++
		}
	}
	if both < 10 || locked < 50 || joined < 50 {
		t.Error("hardly stuck:", both, locked, joined)
	}
}

func TestMachineStaysAsItIs(t *testing.T) { // rule 4: what is asked changes nothing
	r := rand.New(rand.NewSource(7))
	texts := []string{anyProg(r, 3), anyProg(r, 3), anyProg(r, 3), anyProg(r, 3)}
	asked, left := newWorld(t, 3, texts...), newWorld(t, 3, texts...)
	for range 300 {
		e := anyEntry(r)
		stuck.Waits(asked.m, 3)
		if asked.m.Do(e) != left.m.Do(e) || !slices.Equal(asked.m.Events(), left.m.Events()) {
			t.Fatal(e)
		}
	}
}
