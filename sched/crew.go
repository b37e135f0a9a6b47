package sched

import (
	"pinfold/api"
	"pinfold/cpuset"
)

// come lets a worker be online; tasks that were parked for want of it go home.
func (m *Machine) come(cpu int) {
	w := m.worker(cpu)
	refuse(m.isOnline(cpu), api.ErrState)
	m.online = cpuset.Put(m.online, cpu)
	m.tell(api.EvOnline, none, cpu, 0, 0)
	for _, id := range m.tasks.In(api.Parked, 0) {
		m.unpark(id, w.leaf)
	}
}

// quit lets a worker be online no more; tasks that have no worker left where they are go on.
func (m *Machine) quit(cpu int) {
	w := m.worker(cpu)
	refuse(!m.isOnline(cpu), api.ErrState)
	refuse(cpuset.Len(m.online) == 1, api.ErrLast)
	ran := w.task
	if ran != none {
		m.stop(ran, api.WhyOffline)
	}
	m.online = cpuset.Drop(m.online, cpu)
	m.tell(api.EvOffline, none, cpu, 0, 0)
	for d := range m.queues {
		m.vacate(d)
	}
	if ran != none {
		m.goHome(ran, w.leaf)
	}
}

// vacate lets the tasks in the domain's queue that have no worker online there go on.
func (m *Machine) vacate(d int) {
	here := cpuset.And(m.tree.Domains[d].Cpus, m.online)
	for _, r := range m.queues[d].All() {
		if !cpuset.Meets(r.Mask, here) {
			m.goOn(r.Task, m.up(d))
		}
	}
}
