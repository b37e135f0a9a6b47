package sched

import (
	"pinfold/api"
	"pinfold/exec"
	"pinfold/near"
)

// instruct does an instruction of the task that runs on the worker, and what it asks.
func (m *Machine) instruct(cpu int, w *worker) {
	id := w.task
	x := m.task(id)
	p := m.progs[x.Prog]
	m.tell(api.EvIns, id, cpu, p.Code[x.Pc].Op, x.Pc)
	pc, regs, asks := exec.Step(p, x.Pc, x.Regs)
	m.change(id, func(x *api.Task) { x.Pc, x.Regs = pc, regs })
	w.did++
	m.answer(id, cpu, w.leaf, asks)
	if w.task == id && w.did >= api.Quantum {
		m.goBack(id, api.WhyQuantum)
	}
}

// answer does what an instruction of a task asks, which runs on the worker of that leaf.
func (m *Machine) answer(id, cpu, leaf int, asks api.Effect) {
	n := int(asks.N)
	switch asks.Op {
	case api.InsYield:
		m.goBack(id, api.WhyYield)
	case api.InsOut:
		m.tell(api.EvOut, id, cpu, n, 0)
	case api.InsSleep:
		m.sleep(id, n)
	case api.InsSpawn:
		m.set(id, asks.Reg, m.spawn(id, leaf, n))
	case api.InsJoin:
		m.join(id, n, asks.Reg)
	case api.InsLock:
		m.lock(id, leaf, n, asks.Reg)
	case api.InsUnlock:
		m.unlock(id, n, asks.Reg)
	case api.InsMask:
		m.confine(id, n, asks.Reg)
	case api.InsExit:
		m.exit(id, n)
	}
}

// set lets a task's register hold the number.
func (m *Machine) set(id, reg, n int) {
	m.change(id, func(x *api.Task) { x.Regs[reg] = int32(n) })
	m.tell(api.EvReg, id, none, reg, n)
}

// waitFor stops a task that runs: it waits for what the state and on say, of which it will be told in the register.
func (m *Machine) waitFor(id, state, on, reg int) {
	cpu := m.task(id).On
	m.stop(id, api.WhyWait)
	m.change(id, func(x *api.Task) { x.State, x.On, x.Reg = state, on, reg })
	m.tell(api.EvWait, id, cpu, state, on)
}

// wake tells a task the number for which it waits, and lets it go home.
func (m *Machine) wake(id, n int) {
	x := m.task(id)
	m.set(id, x.Reg, n)
	m.goHome(id, x.Last)
}

// sleep lets a task sleep for so many ticks.
func (m *Machine) sleep(id, ticks int) {
	when := m.time + min(max(ticks, 1), api.MaxTime)
	m.waitFor(id, api.Sleeping, when, 0)
	m.sleepers.Put(when, id)
}

// spawn lets a task make one more: its number, or what is wrong, below 0.
func (m *Machine) spawn(id, leaf, prog int) int {
	if !m.isProg(prog) {
		return -int(api.ErrArg)
	}
	x := m.task(id)
	child, e := m.add(api.Task{Prog: prog, Prio: m.progs[prog].Prio, Mask: x.Mask, Bubble: x.Bubble}, id, leaf)
	if e != api.OK {
		return -int(e)
	}
	return child
}

// join lets a task wait till another one has exited.
func (m *Machine) join(id, on, reg int) {
	x, ok := m.tasks.Get(on)
	switch {
	case !ok:
		m.set(id, reg, -int(api.ErrNone))
	case on == id:
		m.set(id, reg, -int(api.ErrArg))
	case x.State == api.Exited:
		m.set(id, reg, x.On)
	default:
		m.waitFor(id, api.Joining, on, reg)
		m.tasks.Join(id, on)
	}
}

// lock lets a task have the lock, or wait for it.
func (m *Machine) lock(id, leaf, n, reg int) {
	socket := near.Socket(m.tree, leaf)
	has, e := m.locks.Take(n, id, socket)
	switch {
	case e != api.OK:
		m.set(id, reg, -int(e))
	case has:
		m.tell(api.EvOwn, id, none, n, socket)
		m.set(id, reg, 0)
	default:
		m.waitFor(id, api.Blocked, n, reg)
	}
}

// unlock lets a task give the lock back.
func (m *Machine) unlock(id, n, reg int) {
	next, ok, e := m.locks.Give(n, id)
	if e != api.OK {
		m.set(id, reg, -int(e))
		return
	}
	m.tell(api.EvFree, id, none, n, 0)
	m.set(id, reg, 0)
	m.own(next, ok, n)
}

// own lets the next task, if there is one, go on with the lock that it has now.
func (m *Machine) own(next int, ok bool, n int) {
	if !ok {
		return
	}
	m.tell(api.EvOwn, next, none, n, m.locks.Socket(n))
	m.wake(next, 0)
}

// confine lets a task that runs be on the workers of a mask alone.
func (m *Machine) confine(id, mask, reg int) {
	s, e := m.newMask(m.task(id), mask)
	if e != api.OK {
		m.set(id, reg, -int(e))
		return
	}
	m.alter(id, whyMask, func(x *api.Task) { x.Mask = s })
	m.set(id, reg, 0)
	m.settle(id)
}

// exit ends a task with the code: its locks go on, and those that waited for it.
func (m *Machine) exit(id, code int) {
	m.stop(id, api.WhyExit)
	m.be(id, api.Exited, code)
	m.tell(api.EvExit, id, none, code, 0)
	for _, n := range m.locks.Owned(id) {
		next, ok, _ := m.locks.Give(n, id)
		m.tell(api.EvFree, id, none, n, 0)
		m.own(next, ok, n)
	}
	for _, waiter := range m.tasks.Joined(id) {
		m.wake(waiter, code)
	}
}
