package sched

import (
	"pinfold/api"
	"pinfold/cpuset"
	"pinfold/home"
)

// mayRun is the workers on which the task may run now.
func (m *Machine) mayRun(id int) api.Set {
	return cpuset.And(m.workersOf(m.task(id)), m.online)
}

// stop takes a task from the worker on which it runs.
func (m *Machine) stop(id, why int) {
	cpu := m.task(id).On
	m.workers[cpu].task = none
	m.tell(api.EvStop, id, cpu, why, 0)
}

// goHome lets a task that is on no worker, and in no queue, go home from a domain.
func (m *Machine) goHome(id, from int) {
	if d, ok := m.seek(id, from); ok {
		m.enter(id, d, m.stamp(), false)
	}
}

// goOn lets a task that waits go home from a domain; there, too, it waits as long as it does.
func (m *Machine) goOn(id, from int) {
	old := m.leave(id)
	if d, ok := m.seek(id, from); ok {
		m.enter(id, d, old.Stamp, true)
	}
}

// goBack lets a task that runs, and is stopped, go home from its leaf.
func (m *Machine) goBack(id, why int) {
	m.stop(id, why)
	m.goHome(id, m.task(id).Last)
}

// seek is the domain in whose queue the task is to wait; one that may wait nowhere is held, or parked.
func (m *Machine) seek(id, from int) (int, bool) {
	if b := m.task(id).Bubble; !m.bubbles.Free(b) {
		m.be(id, api.Held, b)
		m.tell(api.EvHold, id, none, b, 0)
		return 0, false
	}
	d, ok := home.Choose(m.tree, from, m.mayRun(id), m.free())
	if !ok {
		m.be(id, api.Parked, 0)
		m.tell(api.EvPark, id, none, 0, 0)
	}
	return d, ok
}

// enter lets a task wait in the domain's queue, which has room.
func (m *Machine) enter(id, d, stamp int, moved bool) {
	x := m.task(id)
	m.queues[d].Put(api.Ready{Task: id, Prio: x.Prio, Stamp: stamp, Mask: m.workersOf(x), Moved: moved})
	m.be(id, api.Waiting, d)
	m.tell(api.EvReady, id, none, d, 0)
}

// leave takes a task that waits out of its queue, and tells how it waited.
func (m *Machine) leave(id int) api.Ready {
	r, _ := m.queues[m.task(id).On].Drop(id)
	return r
}

// settle lets a task whose workers are others go where they are.
func (m *Machine) settle(id int) {
	x := m.task(id)
	switch x.State {
	case api.Running:
		if !cpuset.Has(m.workersOf(x), x.On) {
			m.goBack(id, api.WhyMask)
		}
	case api.Waiting:
		if !home.Fits(m.tree, x.On, m.mayRun(id)) {
			m.goOn(id, x.On)
			return
		}
		r := m.leave(id)
		r.Mask = m.workersOf(x)
		m.queues[x.On].Put(r)
	case api.Parked:
		m.unpark(id, 0)
	}
}

// unpark lets a task that is parked go home from a domain, if one of its workers is online.
func (m *Machine) unpark(id, from int) {
	if home.Fits(m.tree, 0, m.mayRun(id)) {
		m.goHome(id, from)
	}
}

// gather lets a task whose bubble isn't free be held, if nothing else keeps it.
func (m *Machine) gather(id int) {
	x := m.task(id)
	switch x.State {
	case api.Running:
		m.goBack(id, api.WhyBubble)
	case api.Waiting:
		m.leave(id)
		m.goHome(id, x.On)
	case api.Parked:
		m.goHome(id, 0)
	}
}
