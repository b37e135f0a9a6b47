package bound_test

import (
	"math/rand"
	"slices"
	"testing"

	"pinfold/api"
	"pinfold/bound"
	"pinfold/cpuset"
	"pinfold/near"
	"pinfold/sched"
	"pinfold/topo"
)

// window is the least number of entries such that each row of so many has a step of each worker.
func window(l []api.Entry, cpus []int) int {
	most := 0
	for _, cpu := range cpus {
		gap := 0
		for _, e := range l {
			gap++
			if e.Kind == api.EnStep && e.A == cpu {
				most, gap = max(most, gap), 0
			}
		}
		most = max(most, gap+1)
	}
	return most
}

// watch is for how many entries each task waits while none of a higher priority does.
type watch struct {
	m     *sched.Machine
	since map[int]int
	most  int
}

// look looks at the machine behind an entry.
func (w *watch) look() {
	highest := 0
	for id := range w.m.Tasks() {
		if x, _ := w.m.Task(id); x.State == api.Waiting {
			highest = max(highest, x.Prio)
		}
	}
	for id := range w.m.Tasks() {
		x, _ := w.m.Task(id)
		n, waits := w.since[id]
		switch {
		case x.State != api.Waiting || x.Prio < highest:
			delete(w.since, id)
		case waits:
			w.since[id] = n + 1
			w.most = max(w.most, n+1)
		default:
			w.since[id] = 0
		}
	}
}

// longest is the most entries that a task waits while none of a higher priority does.
func longest(m *sched.Machine, l []api.Entry) int {
	w := watch{m: m, since: map[int]int{}}
	for _, e := range l {
		w.look() // what waits behind the entries ahead: the next one is its first
		m.Do(e)
	}
	w.look()
	return w.most
}

// rounds are steps of the workers by turns, with other entries among them.
func rounds(r *rand.Rand, cpus []int, domains, n int) []api.Entry {
	var l []api.Entry
	rare := 2 + r.Intn(9)
	for i := range n {
		l = append(l, api.Entry{Kind: api.EnStep, A: cpus[i%len(cpus)], Draw: uint(r.Intn(9))})
		if r.Intn(rare) == 0 {
			l = append(l, []api.Entry{{Kind: api.EnTick}, {Kind: api.EnBalance, A: r.Intn(domains)}, {Kind: api.EnNew, A: r.Intn(4), B: r.Intn(4) - 1, C: -1}}[r.Intn(3)])
		}
	}
	return l
}

// steady are programs by which no task's workers change; with prio the last one is of a higher priority.
func steady(t *testing.T, prio int) []api.Prog {
	return []api.Prog{
		code(t, 0, "set r1 1, jump 0"),
		code(t, 0, "lock r0 0, yield, set r2 3, unlock r0 0, sleep r2, jump 0"),
		code(t, 0, "spawn r1 0, spawn r2 1, yield, set r1 0, join r1 r2, exit r0"),
		code(t, prio, "set r0 4, sleep r0, yield, jump 1"),
	}
}

func TestServed(t *testing.T) { // P24.4
	far := 0
	for seed := range int64(150) {
		r := rand.New(rand.NewSource(seed))
		x := anyTree(t, r, 1+r.Intn(5))
		cpus := cpuset.List(x.Domains[0].Cpus)
		c := api.Config{Room: 2 + r.Intn(7), Locks: 1, Masks: []api.Set{cpuset.Of(0), cpuset.Of(cpus[len(cpus)-1]), cpuset.Of(cpus[0], cpus[len(cpus)/2])}, Progs: steady(t, r.Intn(2))}
		m := machine(t, x, c)
		for range c.Room {
			m.Do(api.Entry{Kind: api.EnNew, A: r.Intn(4), B: r.Intn(4) - 1, C: -1})
		}
		l := rounds(r, cpus, len(x.Domains), 40*c.Room*len(cpus))
		got, most := longest(m, l), bound.Dispatch(x, c.Room, window(l, cpus))
		if got > most {
			t.Fatalf("seed %d: a task waits for %d entries, not %d", seed, got, most)
		}
		if 5*got >= most {
			far++
		}
	}
	if far < 10 {
		t.Error("tasks hardly wait:", far)
	}
}

func TestServedLate(t *testing.T) { // P24.4: one worker, three queues of its own, and all tasks wait in the last one
	x := tree(t, "domain m { domain a { domain b cpus 0; } }")
	m := machine(t, x, api.Config{Room: 40, Progs: steady(t, 0)})
	for range 40 {
		do(t, m, api.Entry{Kind: api.EnNew, B: -1, C: -1})
	}
	l := slices.Repeat([]api.Entry{{Kind: api.EnStep}}, 1000)
	if got, most := longest(m, l), bound.Dispatch(x, 40, 1); most != 615 || got > most || got < 550 {
		t.Error(got, most)
	}
}

// queue is who waits for a lock: of each task the socket, how often others had the lock since, and how often they may.
type queue map[int]*struct{ socket, owns, most int }

// check goes over a machine's events, and tells of the first task that waits for too many others, and how near to the bound one came at most, in hundredths.
func check(x api.Topo, l []api.Event) (wrong, nearest int) {
	queues := map[int]queue{}
	for _, e := range l {
		switch {
		case e.Kind == api.EvWait && e.A == api.Blocked:
			if queues[e.B] == nil {
				queues[e.B] = queue{}
			}
			leaf, _ := topo.Leaf(x, e.Cpu)
			socket, ahead := near.Socket(x, leaf), 0
			for _, y := range queues[e.B] {
				if y.socket == socket {
					ahead++
				}
			}
			queues[e.B][e.Task] = &struct{ socket, owns, most int }{socket, 0, bound.Lock(x, ahead)}
		case e.Kind == api.EvOwn:
			delete(queues[e.A], e.Task)
			for task, y := range queues[e.A] {
				y.owns++
				nearest = max(nearest, 100*y.owns/y.most)
				if y.owns > y.most {
					return task, nearest
				}
			}
		}
	}
	return -1, nearest
}

func TestLocksTurns(t *testing.T) { // P24.5
	most := 0
	for seed := range int64(150) {
		r := rand.New(rand.NewSource(seed))
		x := anyTree(t, r, 2+r.Intn(8))
		cpus := cpuset.List(x.Domains[0].Cpus)
		c := api.Config{Room: 2 + r.Intn(20), Locks: 2, Masks: []api.Set{x.Domains[0].Cpus, cpuset.Of(cpus[0]), cpuset.Range(0, 3)}}
		for range 4 {
			give := []string{"yield, ", "set r3 1, sleep r3, ", "lock r1 1, yield, unlock r1 1, ", "mask r3 1, yield, mask r3 0, ", ""}[r.Intn(5)]
			c.Progs = append(c.Progs, code(t, r.Intn(2), "lock r0 0, "+give+"unlock r0 0, jump 0"))
		}
		m := machine(t, x, c)
		for range c.Room {
			m.Do(api.Entry{Kind: api.EnNew, A: r.Intn(4), B: -1, C: -1})
		}
		for range 1500 {
			e := api.Entry{Kind: api.EnStep, A: cpus[r.Intn(len(cpus))], Draw: uint(r.Intn(9))}
			if r.Intn(9) == 0 {
				e = api.Entry{Kind: []int{api.EnTick, api.EnTick, api.EnOnline, api.EnOffline, api.EnPin, api.EnUnpin, api.EnBalance}[r.Intn(7)], A: r.Intn(8), B: e.A}
			}
			m.Do(e)
		}
		wrong, nearest := check(x, m.Events())
		if wrong >= 0 {
			t.Fatalf("seed %d: task %d waits too long for a lock", seed, wrong)
		}
		most = max(most, nearest)
	}
	if most < 50 {
		t.Error("tasks hardly wait for locks:", most)
	}
}
