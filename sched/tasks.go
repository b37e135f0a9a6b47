package sched

import (
	"pinfold/api"
	"pinfold/cpuset"
)

// start lets there be a task more.
func (m *Machine) start(prog, mask, prio int) {
	refuse(!m.isProg(prog), api.ErrArg)
	s, e := m.mask(mask)
	must(e)
	refuse(prio < -1 || prio > api.MaxPrio, api.ErrArg)
	if prio == -1 {
		prio = m.progs[prog].Prio
	}
	_, e = m.add(api.Task{Prog: prog, Prio: prio, Mask: s, Bubble: none}, none, 0)
	must(e)
}

// add lets there be a task more, which a maker made, and which goes home from a domain.
func (m *Machine) add(x api.Task, maker, from int) (int, api.Errno) {
	x.Pin, x.State = none, api.Parked // till it goes home
	id, e := m.tasks.Add(x)
	if e != api.OK {
		return 0, e
	}
	m.tell(api.EvNew, id, none, x.Prog, maker)
	m.goHome(id, from)
	return id, api.OK
}

// newMask is the workers of a mask that a task may have from now on.
func (m *Machine) newMask(x api.Task, n int) (api.Set, api.Errno) {
	s, e := m.mask(n)
	if e == api.OK && x.Pin != none && !cpuset.Has(s, x.Pin) {
		e = api.ErrMask
	}
	return s, e
}

// Why a task's workers are others.
const (
	whyMask   = 1
	whyPin    = 2
	whyBubble = 3
)

// alter lets a task's workers be others, as how leaves it.
func (m *Machine) alter(id, why int, how func(x *api.Task)) {
	m.change(id, how)
	m.tell(api.EvMask, id, none, why, 0)
}

// restrict lets a task run on the workers of a mask alone.
func (m *Machine) restrict(id, mask int) {
	s, e := m.newMask(m.living(id), mask)
	must(e)
	m.alter(id, whyMask, func(x *api.Task) { x.Mask = s })
	m.settle(id)
}

// pin lets a task run on one worker alone.
func (m *Machine) pin(id, cpu int) {
	x := m.living(id)
	m.worker(cpu)
	refuse(!cpuset.Has(x.Mask, cpu), api.ErrMask)
	m.alter(id, whyPin, func(x *api.Task) { x.Pin = cpu })
	m.settle(id)
}

// unpin lets a task run on all of its mask again.
func (m *Machine) unpin(id int) {
	refuse(m.living(id).Pin == none, api.ErrState)
	m.alter(id, whyPin, func(x *api.Task) { x.Pin = none })
	m.settle(id)
}
