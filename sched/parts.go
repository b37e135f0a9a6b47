package sched

import (
	"slices"
	"sync/atomic"

	"pinfold/api"
	"pinfold/bands"
	"pinfold/bubble"
	"pinfold/cohort"
	"pinfold/cpuset"
	"pinfold/heap"
	"pinfold/load"
	"pinfold/pick"
	"pinfold/table"
)

// none stands for no task, no worker, no bubble, and as a mask's number for all workers.
const none = -1

// made is what the machine is made with; it stays so.
type made struct {
	tree  api.Topo
	all   api.Set // workers
	progs []api.Prog
	masks []api.Set // of the machine's workers alone
}

// newMade keeps nothing of what is handed in.
func newMade(t api.Topo, c api.Config) made {
	p := made{tree: api.Topo{Domains: slices.Clone(t.Domains)}, all: t.Domains[0].Cpus}
	for _, x := range c.Progs {
		p.progs = append(p.progs, api.Prog{Prio: x.Prio, Code: slices.Clone(x.Code)})
	}
	for _, s := range c.Masks {
		p.masks = append(p.masks, cpuset.And(s, p.all))
	}
	return p
}

// mask is the workers that a mask's number stands for.
func (p *made) mask(n int) (api.Set, api.Errno) {
	s := p.all
	switch {
	case n == none:
	case n < 0 || n >= len(p.masks):
		return api.Set{}, api.ErrArg
	default:
		s = p.masks[n]
	}
	if cpuset.Len(s) == 0 {
		return api.Set{}, api.ErrMask
	}
	return s, api.OK
}

// isProg tells whether there is a program of that number.
func (p *made) isProg(n int) bool { return n >= 0 && n < len(p.progs) }

// isDomain tells whether there is a domain of that number.
func (p *made) isDomain(d int) bool { return d >= 0 && d < len(p.tree.Domains) }

// up is the domain in which d lies; the whole, if d is that.
func (p *made) up(d int) int { return max(p.tree.Domains[d].Up, 0) }

// worker is one of the machine's: its leaf, the task that runs on it (none: there is none), and how many instructions that did since it was dispatched.
type worker struct {
	leaf   int
	task   int
	did    int
	picker *pick.Picker // made when the worker looks for a task, as of a great machine all of them have much to keep
}

// crew is the machine's workers.
type crew struct {
	workers map[int]*worker
	online  api.Set
}

// newCrew is t's workers, all of which are online.
func newCrew(t api.Topo) crew {
	c := crew{workers: map[int]*worker{}, online: t.Domains[0].Cpus}
	for d, x := range t.Domains {
		if !x.Leaf {
			continue
		}
		for _, cpu := range cpuset.List(x.Cpus) {
			c.workers[cpu] = &worker{leaf: d, task: none}
		}
	}
	return c
}

// runsOn is the task that runs on the worker.
func (c *crew) runsOn(cpu int) (int, bool) {
	w, ok := c.workers[cpu]
	if !ok || w.task == none {
		return 0, false
	}
	return w.task, true
}

// yard is the domains' queues.
type yard struct {
	queues []*bands.Queue
}

// newYard is t's queues, of no tasks; that of the whole has room for all tasks that there may be.
func newYard(t api.Topo, room int) yard {
	var y yard
	for d, x := range t.Domains {
		if d > 0 {
			room = x.Room
		}
		y.queues = append(y.queues, bands.New(room))
	}
	return y
}

// free is how much room each queue has left.
func (y *yard) free() []int {
	l := make([]int, len(y.queues))
	for d, q := range y.queues {
		l[d] = q.Room() - q.Len()
	}
	return l
}

// waiting is the tasks that wait in each queue, in order.
func (y *yard) waiting() [][]api.Ready {
	l := make([][]api.Ready, len(y.queues))
	for d, q := range y.queues {
		l[d] = q.All()
	}
	return l
}

// folk is the tasks, the bubbles to which they belong, and the locks that they have.
type folk struct {
	tasks   *table.Table
	bubbles *bubble.Forest
	locks   *cohort.Locks
}

// newFolk is no tasks, no bubbles, and locks that nobody has.
func newFolk(c api.Config) folk {
	return folk{tasks: table.New(c.Room), bubbles: bubble.New(), locks: cohort.New(c.Locks)}
}

// task is the task of that number, which there is.
func (f *folk) task(id int) api.Task {
	x, _ := f.tasks.Get(id)
	return x
}

// change lets a task be as how leaves it.
func (f *folk) change(id int, how func(x *api.Task)) {
	x := f.task(id)
	how(&x)
	f.tasks.Set(id, x)
}

// be lets a task be in that state, and be told nothing any more.
func (f *folk) be(id, state, on int) {
	f.change(id, func(x *api.Task) { x.State, x.On, x.Reg = state, on, 0 })
}

// workersOf is those on which a task may run, be they online or not.
func (f *folk) workersOf(x api.Task) api.Set {
	own := x.Mask
	if x.Pin != none {
		own = cpuset.Of(x.Pin)
	}
	return cpuset.And(own, f.bubbles.Mask(x.Bubble))
}

// owner is who has the lock.
func (f *folk) owner(n int) int {
	id, ok := f.locks.Owner(n)
	if !ok {
		return none
	}
	return id
}

// clock is the time, who sleeps till when, how many stamps were given, and the loads.
type clock struct {
	time     int
	sleepers heap.Heap[int]
	stamps   atomic.Int64
	loads    *load.Loads
}

// newClock is at time 0.
func newClock(t api.Topo) clock { return clock{loads: load.New(t)} }

// stamp is a new one.
func (c *clock) stamp() int { return int(c.stamps.Add(1)) }

// diary is what happened, as far as it wasn't asked for.
type diary struct {
	events []api.Event
}

// tell writes an event down.
func (d *diary) tell(kind, task, cpu, a, b int) {
	d.events = append(d.events, api.Event{Kind: kind, Task: task, Cpu: cpu, A: a, B: b})
}

// handOver is all events, which go.
func (d *diary) handOver() []api.Event {
	l := d.events
	d.events = nil
	return l
}
