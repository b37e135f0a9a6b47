package sched

import (
	"pinfold/api"
	"pinfold/cpuset"
	"pinfold/pick"
	"pinfold/plan"
)

// refusal is the error of an entry that is refused: a panic carries it to Do, ahead of any change.
type refusal api.Errno

// refuse refuses the entry, if it is so.
func refuse(is bool, e api.Errno) {
	if is {
		panic(refusal(e))
	}
}

// must refuses the entry, if there is an error.
func must(e api.Errno) { refuse(e != api.OK, e) }

// told is the error of a refusal.
func told(fault any) api.Errno {
	if r, ok := fault.(refusal); ok {
		return api.Errno(r)
	}
	panic(fault) // what else went wrong is no answer about the entry
}

// do does an entry, or refuses it.
func (m *Machine) do(e api.Entry) {
	switch e.Kind {
	case api.EnStep:
		m.step(e.A, e.Draw)
	case api.EnTick:
		m.tick()
	case api.EnNew:
		m.start(e.A, e.B, e.C)
	case api.EnMask:
		m.restrict(e.A, e.B)
	case api.EnPin:
		m.pin(e.A, e.B)
	case api.EnUnpin:
		m.unpin(e.A)
	case api.EnOnline:
		m.come(e.A)
	case api.EnOffline:
		m.quit(e.A)
	case api.EnBubble:
		m.blow(e.A, e.B)
	case api.EnPut:
		m.put(e.A, e.B)
	case api.EnSeal:
		must(m.bubbles.Seal(e.A))
		m.tellBubbles(e.A)
	case api.EnPlace:
		m.place(e.A, e.B)
	case api.EnBurst:
		m.burst(e.A)
	case api.EnRegen:
		m.regen(e.A)
	case api.EnBalance:
		m.balance(e.A)
	default:
		refuse(true, api.ErrArg)
	}
}

// worker is that of the number.
func (m *Machine) worker(cpu int) *worker {
	w, ok := m.workers[cpu]
	refuse(!ok, api.ErrArg)
	return w
}

// isOnline tells whether the worker is online.
func (m *Machine) isOnline(cpu int) bool { return cpuset.Has(m.online, cpu) }

// living is the task of that number, which has not exited.
func (m *Machine) living(id int) api.Task {
	x, ok := m.tasks.Get(id)
	refuse(!ok, api.ErrNone)
	refuse(x.State == api.Exited, api.ErrState)
	return x
}

// step lets a worker do a step.
func (m *Machine) step(cpu int, draw uint) {
	w := m.worker(cpu)
	refuse(!m.isOnline(cpu), api.ErrState)
	if w.task != none {
		m.instruct(cpu, w)
		return
	}
	if w.picker == nil {
		w.picker = pick.New(m.tree, cpu)
	}
	d, r, ok := w.picker.Next(m.queues, draw)
	if !ok {
		m.tell(api.EvIdle, none, cpu, 0, 0)
		return
	}
	w.task, w.did = r.Task, 0
	m.change(r.Task, func(x *api.Task) { x.State, x.On, x.Last = api.Running, cpu, w.leaf })
	m.tell(api.EvDispatch, r.Task, cpu, d, 0)
}

// tick lets the time go on.
func (m *Machine) tick() {
	refuse(m.time == api.MaxTime, api.ErrBig)
	m.time++
	m.tell(api.EvTick, none, none, m.time, 0)
	for _, id := range m.sleepers.Due(m.time) {
		m.goHome(id, m.task(id).Last)
	}
	m.loads.Tick(m.busy())
}

// busy is how many tasks wait in each domain's queue, or run on the leaf's workers.
func (m *Machine) busy() []int {
	l := make([]int, len(m.queues))
	for d, q := range m.queues {
		l[d] = q.Len()
	}
	for _, w := range m.workers {
		if w.task != none {
			l[w.leaf]++
		}
	}
	return l
}

// balance lets tasks go from the busiest part of a domain to the idlest.
func (m *Machine) balance(d int) {
	refuse(!m.isDomain(d), api.ErrArg)
	for _, way := range plan.Plan(m.tree, d, m.loads.All(), m.waiting(), m.free(), m.online) {
		r := m.leave(way.Task)
		r.Moved = true
		m.queues[way.To].Put(r)
		m.be(way.Task, api.Waiting, way.To)
		m.tell(api.EvMove, way.Task, none, way.From, way.To)
	}
}
