package sched

import (
	"pinfold/api"
	"pinfold/cpuset"
)

// tellBubbles tells in which states the bubbles are now.
func (m *Machine) tellBubbles(l ...int) {
	for _, b := range l {
		x, _ := m.bubbles.Get(b)
		m.tell(api.EvBubble, none, none, b, x.State)
	}
}

// blow makes a bubble.
func (m *Machine) blow(up, mask int) {
	s, e := m.mask(mask)
	must(e)
	b, e := m.bubbles.Make(up, s)
	must(e)
	m.tellBubbles(b)
}

// put puts a task into a bubble that is open.
func (m *Machine) put(id, b int) {
	x := m.living(id)
	refuse(x.Bubble != none, api.ErrTwice)
	in, ok := m.bubbles.Get(b)
	refuse(!ok, api.ErrArg)
	refuse(in.State != api.Open, api.ErrState)
	x.Bubble = b
	refuse(cpuset.Len(m.workersOf(x)) == 0, api.ErrMask)
	m.alter(id, whyBubble, func(x *api.Task) { x.Bubble = b })
	m.gather(id)
}

// place lets a bubble wait at a domain.
func (m *Machine) place(b, d int) {
	_, ok := m.bubbles.Get(b)
	refuse(!ok, api.ErrNone)
	refuse(!m.isDomain(d), api.ErrArg)
	refuse(!cpuset.Meets(m.bubbles.Mask(b), m.tree.Domains[d].Cpus), api.ErrMask)
	must(m.bubbles.Place(b, d))
	m.tellBubbles(b)
}

// burst lets a bubble's tasks run by themselves.
func (m *Machine) burst(b int) {
	l, e := m.bubbles.Burst(b)
	must(e)
	m.tellBubbles(l...)
	m.each(func(id int, x api.Task) {
		if in, _ := m.bubbles.Get(x.Bubble); x.State == api.Held && m.bubbles.Free(x.Bubble) {
			m.goHome(id, in.Home)
		}
	})
}

// regen calls the tasks of a bubble that has burst together again.
func (m *Machine) regen(b int) {
	in, ok := m.bubbles.Get(b)
	refuse(!ok, api.ErrNone)
	l, e := m.bubbles.Regen(b, m.up(in.Home))
	must(e)
	m.tellBubbles(l...)
	m.each(func(id int, x api.Task) {
		if m.bubbles.Inside(x.Bubble, b) {
			m.gather(id)
		}
	})
}

// each does so with each task, rising.
func (m *Machine) each(do func(id int, x api.Task)) {
	for id := range m.tasks.Len() {
		do(id, m.task(id))
	}
}
