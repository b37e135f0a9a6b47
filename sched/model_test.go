package sched_test

import (
	"slices"

	"pinfold/api"
	"pinfold/bubble"
	"pinfold/cohort"
	"pinfold/cpuset"
	"pinfold/exec"
	"pinfold/load"
	"pinfold/near"
	"pinfold/plan"
	"pinfold/topo"
)

// model is a second reading of the chapter: plain lists, gone through from end to end. A task's State is 0 while it is nowhere.
type model struct {
	x       api.Topo
	c       api.Config
	online  []int
	tasks   []api.Task
	queues  [][]api.Ready // in order
	did     map[int]int   // by workers
	picks   map[int]int   // how often each worker looked for a task
	naps    [][2]int      // till when, who; in the order of falling asleep
	joins   [][2]int      // who, for whom
	bubbles *bubble.Forest
	locks   *cohort.Locks
	loads   []int
	time    int
	stamp   int
	told    []api.Event
}

func newModel(x api.Topo, c api.Config) *model {
	return &model{x: x, c: c, online: cpuset.List(x.Domains[0].Cpus), queues: make([][]api.Ready, len(x.Domains)), did: map[int]int{}, picks: map[int]int{}, bubbles: bubble.New(), locks: cohort.New(c.Locks), loads: make([]int, len(x.Domains))}
}

func (m *model) say(kind, task, cpu, a, b int) {
	m.told = append(m.told, api.Event{Kind: kind, Task: task, Cpu: cpu, A: a, B: b})
}

func (m *model) isWorker(n int) bool { return slices.Contains(cpuset.List(m.x.Domains[0].Cpus), n) }
func (m *model) isDomain(n int) bool { return n >= 0 && n < len(m.x.Domains) }
func (m *model) isOnline(n int) bool { return slices.Contains(m.online, n) }
func (m *model) runner(cpu int) int { // -1: none
	return slices.IndexFunc(m.tasks, func(x api.Task) bool { return x.State == api.Running && x.On == cpu })
}

// maskOf is the mask of a number.
func (m *model) maskOf(n int) (api.Set, api.Errno) {
	if n < -1 || n >= len(m.c.Masks) {
		return api.Set{}, api.ErrArg
	}
	var l []int
	for _, cpu := range cpuset.List(m.x.Domains[0].Cpus) {
		if n == -1 || cpuset.Has(m.c.Masks[n], cpu) {
			l = append(l, cpu)
		}
	}
	if len(l) == 0 {
		return api.Set{}, api.ErrMask
	}
	return cpuset.Of(l...), api.OK
}

// workers is those of a task.
func (m *model) workers(x api.Task) api.Set {
	var l []int
	for _, cpu := range cpuset.List(m.x.Domains[0].Cpus) {
		is := cpuset.Has(x.Mask, cpu) && (x.Pin == -1 || x.Pin == cpu)
		for b := x.Bubble; b >= 0; {
			in, _ := m.bubbles.Get(b)
			is = is && cpuset.Has(in.Mask, cpu)
			b = in.Up
		}
		if is {
			l = append(l, cpu)
		}
	}
	return cpuset.Of(l...)
}

// serves tells whether one of the task's workers is online in the domain.
func (m *model) serves(d int, x api.Task) bool {
	for _, cpu := range cpuset.List(m.workers(x)) {
		if m.isOnline(cpu) && cpuset.Has(m.x.Domains[d].Cpus, cpu) {
			return true
		}
	}
	return false
}

func (m *model) roomOf(d int) int {
	if d == 0 {
		return m.c.Room - len(m.queues[0])
	}
	return m.x.Domains[d].Room - len(m.queues[d])
}

// insert lets it wait in the domain's queue: behind all of a higher priority, and of the same one with a lesser stamp.
func (m *model) insert(d int, r api.Ready) {
	i := 0
	for i < len(m.queues[d]) && (m.queues[d][i].Prio > r.Prio || m.queues[d][i].Prio == r.Prio && m.queues[d][i].Stamp < r.Stamp) {
		i++
	}
	m.queues[d] = slices.Insert(slices.Clone(m.queues[d]), i, r)
}

// pull takes the task out of whatever queue it is in.
func (m *model) pull(id int) (r api.Ready) {
	for d, q := range m.queues {
		for i := range q {
			if q[i].Task == id {
				r = q[i]
				m.queues[d] = slices.Concat(q[:i], q[i+1:])
				return r
			}
		}
	}
	return r
}

// home: old is the stamp that it keeps, -1 for a new one.
func (m *model) home(id, from, old int) {
	x := &m.tasks[id]
	x.Reg = 0
	if x.Bubble != -1 {
		free := true
		for b := x.Bubble; b >= 0; {
			in, _ := m.bubbles.Get(b)
			free = free && in.State == api.Burst
			b = in.Up
		}
		if !free {
			x.State, x.On = api.Held, x.Bubble
			m.say(api.EvHold, id, -1, x.Bubble, 0)
			return
		}
	}
	for d := from; d >= 0; d = m.x.Domains[d].Up {
		if !m.serves(d, *x) || m.roomOf(d) < 1 && d > 0 {
			continue
		}
		if old < 0 {
			m.stamp++
		}
		r := api.Ready{Task: id, Prio: x.Prio, Stamp: m.stamp, Mask: m.workers(*x)}
		if old >= 0 {
			r.Stamp, r.Moved = old, true
		}
		m.insert(d, r)
		x.State, x.On = api.Waiting, d
		m.say(api.EvReady, id, -1, d, 0)
		return
	}
	x.State, x.On = api.Parked, 0
	m.say(api.EvPark, id, -1, 0, 0)
}

func (m *model) stop(id, why int) {
	m.say(api.EvStop, id, m.tasks[id].On, why, 0)
	m.tasks[id].State = 0
}

func (m *model) settle(id int) {
	x := m.tasks[id]
	switch {
	case x.State == api.Running && !cpuset.Has(m.workers(x), x.On):
		m.stop(id, api.WhyMask)
		m.home(id, x.Last, -1)
	case x.State == api.Waiting && !m.serves(x.On, x):
		m.home(id, x.On, m.pull(id).Stamp)
	case x.State == api.Waiting:
		r := m.pull(id)
		r.Mask = m.workers(x)
		m.insert(x.On, r)
	case x.State == api.Parked && m.serves(0, x):
		m.home(id, 0, -1)
	}
}

// do does an entry; what is refused is told.
func (m *model) do(e api.Entry) api.Errno {
	answer := m.try(e)
	if answer != api.OK {
		m.say(api.EvFail, -1, -1, int(answer), 0)
	}
	return answer
}

// try does an entry; what is refused changes nothing.
func (m *model) try(e api.Entry) api.Errno {
	if slices.Contains([]int{api.EnMask, api.EnPin, api.EnUnpin, api.EnPut}, e.Kind) {
		if e.A < 0 || e.A >= len(m.tasks) {
			return api.ErrNone
		}
		if m.tasks[e.A].State == api.Exited {
			return api.ErrState
		}
	}
	if slices.Contains([]int{api.EnStep, api.EnOnline, api.EnOffline}, e.Kind) && !m.isWorker(e.A) {
		return api.ErrArg
	}
	switch e.Kind {
	case api.EnStep:
		return m.step(e.A, e.Draw)
	case api.EnTick:
		return m.tick()
	case api.EnNew:
		return m.enNew(e)
	case api.EnMask, api.EnPin, api.EnUnpin:
		return m.enMask(e)
	case api.EnOnline:
		return m.enOnline(e.A)
	case api.EnOffline:
		return m.enOffline(e.A)
	case api.EnPut:
		return m.enPut(e.A, e.B)
	case api.EnBubble, api.EnSeal, api.EnPlace, api.EnBurst, api.EnRegen:
		return m.enBubble(e)
	case api.EnBalance:
		return m.enBalance(e.A)
	}
	return api.ErrArg
}

func (m *model) step(cpu int, draw uint) api.Errno {
	if !m.isOnline(cpu) {
		return api.ErrState
	}
	if id := m.runner(cpu); id >= 0 {
		m.instruct(id, cpu)
		return api.OK
	}
	id, d := m.pick(cpu, draw)
	if id < 0 {
		m.say(api.EvIdle, -1, cpu, 0, 0)
		return api.OK
	}
	m.pull(id)
	m.did[cpu] = 0
	x := &m.tasks[id]
	x.State, x.On, x.Last = api.Running, cpu, m.leaf(cpu)
	m.say(api.EvDispatch, id, cpu, d, 0)
	return api.OK
}

func (m *model) leaf(cpu int) int {
	d, _ := topo.Leaf(m.x, cpu)
	return d
}

// best is the highest priority in a queue for the worker, -1 for none, and the first and the last task of it there.
func (m *model) best(d, cpu int) (prio, first, last int) {
	prio = -1
	for _, r := range m.queues[d] {
		if !cpuset.Has(r.Mask, cpu) || r.Prio < prio {
			continue
		}
		if prio < 0 {
			prio, first = r.Prio, r.Task
		}
		last = r.Task
	}
	return prio, first, last
}

func (m *model) pick(cpu int, draw uint) (id, d int) {
	path := near.Path(m.x, m.leaf(cpu))
	begin := m.picks[cpu] % len(path)
	m.picks[cpu]++
	own := []int{path[begin]}
	for i, p := range path {
		if i != begin {
			own = append(own, p)
		}
	}
	highest, id := -1, -1
	for _, p := range own {
		if prio, first, _ := m.best(p, cpu); prio > highest {
			highest, id, d = prio, first, p
		}
	}
	if id >= 0 {
		return id, d
	}
	for _, p := range near.Order(m.x, m.leaf(cpu), draw) {
		if prio, _, last := m.best(p, cpu); prio >= 0 {
			return last, p
		}
	}
	return -1, 0
}

func (m *model) tick() api.Errno {
	if m.time == api.MaxTime {
		return api.ErrBig
	}
	m.time++
	m.say(api.EvTick, -1, -1, m.time, 0)
	var later [][2]int
	for _, nap := range m.naps { // at each tick, so all that are due are due at one time
		if nap[0] <= m.time {
			m.home(nap[1], m.tasks[nap[1]].Last, -1)
		} else {
			later = append(later, nap)
		}
	}
	m.naps = later
	own := make([]int, len(m.x.Domains))
	for d, q := range m.queues {
		own[d] = len(q)
	}
	for _, x := range m.tasks {
		if x.State == api.Running {
			own[m.leaf(x.On)]++
		}
	}
	for d, n := range load.Sums(m.x, own) {
		m.loads[d] = load.Next(m.loads[d], n)
	}
	return api.OK
}

func (m *model) add(x api.Task, maker, from int) {
	id := len(m.tasks)
	m.tasks = append(m.tasks, x)
	m.say(api.EvNew, id, -1, x.Prog, maker)
	m.home(id, from, -1)
}

func (m *model) enNew(e api.Entry) api.Errno {
	if e.A < 0 || e.A >= len(m.c.Progs) {
		return api.ErrArg
	}
	s, err := m.maskOf(e.B)
	if err != api.OK {
		return err
	}
	if e.C < -1 || e.C > api.MaxPrio {
		return api.ErrArg
	}
	if len(m.tasks) >= m.c.Room {
		return api.ErrFull
	}
	x := api.Task{Prog: e.A, Prio: e.C, Mask: s, Pin: -1, Bubble: -1}
	if e.C < 0 {
		x.Prio = m.c.Progs[e.A].Prio
	}
	m.add(x, -1, 0)
	return api.OK
}

func (m *model) enMask(e api.Entry) api.Errno {
	x := &m.tasks[e.A]
	why := 2
	switch e.Kind {
	case api.EnMask:
		s, err := m.maskOf(e.B)
		if err != api.OK {
			return err
		}
		if x.Pin >= 0 && !cpuset.Has(s, x.Pin) {
			return api.ErrMask
		}
		x.Mask, why = s, 1
	case api.EnPin:
		if !m.isWorker(e.B) {
			return api.ErrArg
		}
		if !cpuset.Has(x.Mask, e.B) {
			return api.ErrMask
		}
		x.Pin = e.B
	case api.EnUnpin:
		if x.Pin < 0 {
			return api.ErrState
		}
		x.Pin = -1
	}
	m.say(api.EvMask, e.A, -1, why, 0)
	m.settle(e.A)
	return api.OK
}

func (m *model) enOnline(cpu int) api.Errno {
	if m.isOnline(cpu) {
		return api.ErrState
	}
	m.online = append(m.online, cpu)
	m.say(api.EvOnline, -1, cpu, 0, 0)
	for id, x := range m.tasks {
		if x.State == api.Parked && m.serves(0, x) {
			m.home(id, m.leaf(cpu), -1)
		}
	}
	return api.OK
}

func (m *model) enOffline(cpu int) api.Errno {
	if !m.isOnline(cpu) {
		return api.ErrState
	}
	if len(m.online) == 1 {
		return api.ErrLast
	}
	id := m.runner(cpu)
	if id >= 0 {
		m.stop(id, api.WhyOffline)
	}
	m.online = slices.DeleteFunc(m.online, func(n int) bool { return n == cpu })
	m.say(api.EvOffline, -1, cpu, 0, 0)
	for d, q := range m.queues {
		for _, r := range q {
			if !m.serves(d, m.tasks[r.Task]) {
				m.pull(r.Task)
				m.home(r.Task, max(0, m.x.Domains[d].Up), r.Stamp)
			}
		}
	}
	if id >= 0 {
		m.home(id, m.leaf(cpu), -1)
	}
	return api.OK
}

// called lets a task be held that is on a worker, in a queue, or parked.
func (m *model) called(id int) {
	switch m.tasks[id].State {
	case api.Running:
		m.stop(id, api.WhyBubble)
	case api.Waiting:
		m.pull(id)
	case api.Parked:
	default:
		return
	}
	m.home(id, 0, -1)
}

func (m *model) enPut(id, b int) api.Errno {
	x := m.tasks[id]
	if x.Bubble >= 0 {
		return api.ErrTwice
	}
	in, ok := m.bubbles.Get(b)
	if !ok {
		return api.ErrArg
	}
	if in.State != api.Open {
		return api.ErrState
	}
	x.Bubble = b
	if len(cpuset.List(m.workers(x))) == 0 {
		return api.ErrMask
	}
	m.tasks[id] = x
	m.say(api.EvMask, id, -1, 3, 0)
	m.called(id)
	return api.OK
}

func (m *model) enBubble(e api.Entry) api.Errno {
	in, is := m.bubbles.Get(e.A)
	var l []int
	var err api.Errno
	switch e.Kind {
	case api.EnBubble:
		var s api.Set
		if s, err = m.maskOf(e.B); err != api.OK {
			return err
		}
		var b int
		b, err = m.bubbles.Make(e.A, s)
		l = []int{b}
	case api.EnSeal:
		l, err = []int{e.A}, m.bubbles.Seal(e.A)
	case api.EnPlace:
		switch {
		case !is:
			return api.ErrNone
		case !m.isDomain(e.B):
			return api.ErrArg
		case !cpuset.Meets(m.bubbles.Mask(e.A), m.x.Domains[e.B].Cpus):
			return api.ErrMask
		}
		l, err = []int{e.A}, m.bubbles.Place(e.A, e.B)
	case api.EnBurst:
		l, err = m.bubbles.Burst(e.A)
	case api.EnRegen:
		to := 0
		if is && in.Home > 0 {
			to = m.x.Domains[in.Home].Up
		}
		l, err = m.bubbles.Regen(e.A, to)
	}
	if err != api.OK {
		return err
	}
	for _, b := range l {
		x, _ := m.bubbles.Get(b)
		m.say(api.EvBubble, -1, -1, b, x.State)
	}
	for id, x := range m.tasks {
		in, ok := m.bubbles.Get(x.Bubble)
		if e.Kind == api.EnBurst && x.State == api.Held && m.bubbles.Free(x.Bubble) {
			m.home(id, in.Home, -1)
		}
		if e.Kind == api.EnRegen && ok && m.bubbles.Inside(x.Bubble, e.A) {
			m.called(id)
		}
	}
	return api.OK
}

func (m *model) enBalance(d int) api.Errno {
	if !m.isDomain(d) {
		return api.ErrArg
	}
	var free []int
	for d := range m.x.Domains {
		free = append(free, m.roomOf(d))
	}
	for _, move := range plan.Plan(m.x, d, m.loads, m.queues, free, cpuset.Of(m.online...)) {
		r := m.pull(move.Task)
		r.Moved = true
		m.insert(move.To, r)
		m.tasks[move.Task].On = move.To
		m.say(api.EvMove, move.Task, -1, move.From, move.To)
	}
	return api.OK
}

// instruct does an instruction of the task on the worker.
func (m *model) instruct(id, cpu int) {
	p := m.c.Progs[m.tasks[id].Prog]
	pc := m.tasks[id].Pc
	m.say(api.EvIns, id, cpu, p.Code[pc].Op, pc)
	var f api.Effect
	m.tasks[id].Pc, m.tasks[id].Regs, f = exec.Step(p, pc, m.tasks[id].Regs)
	m.did[cpu]++
	switch n := int(f.N); f.Op {
	case api.InsYield:
		m.stop(id, api.WhyYield)
		m.home(id, m.tasks[id].Last, -1)
	case api.InsOut:
		m.say(api.EvOut, id, cpu, n, 0)
	case api.InsSleep:
		m.wait(id, cpu, api.Sleeping, m.time+min(max(n, 1), api.MaxTime), 0)
		m.naps = append(m.naps, [2]int{m.tasks[id].On, id})
	case api.InsSpawn:
		m.reg(id, f.Reg, m.spawn(id, cpu, n))
	case api.InsJoin:
		m.join(id, cpu, n, f.Reg)
	case api.InsLock:
		socket := near.Socket(m.x, m.leaf(cpu))
		if got, e := m.locks.Take(n, id, socket); e != api.OK {
			m.reg(id, f.Reg, -int(e))
		} else if got {
			m.say(api.EvOwn, id, -1, n, socket)
			m.reg(id, f.Reg, 0)
		} else {
			m.wait(id, cpu, api.Blocked, n, f.Reg)
		}
	case api.InsUnlock:
		m.give(id, n, f.Reg)
	case api.InsMask:
		s, e := m.maskOf(n)
		x := &m.tasks[id]
		if e == api.OK && x.Pin >= 0 && !cpuset.Has(s, x.Pin) {
			e = api.ErrMask
		}
		if e == api.OK {
			x.Mask = s
			m.say(api.EvMask, id, -1, 1, 0)
		}
		m.reg(id, f.Reg, -int(e))
		m.settle(id)
	case api.InsExit:
		m.exit(id, n)
	}
	if m.runner(cpu) == id && m.did[cpu] >= api.Quantum {
		m.stop(id, api.WhyQuantum)
		m.home(id, m.tasks[id].Last, -1)
	}
}

func (m *model) reg(id, reg, n int) {
	m.tasks[id].Regs[reg] = int32(n)
	m.say(api.EvReg, id, -1, reg, n)
}

func (m *model) wait(id, cpu, state, on, reg int) {
	m.stop(id, api.WhyWait)
	x := &m.tasks[id]
	x.State, x.On, x.Reg = state, on, reg
	m.say(api.EvWait, id, cpu, state, on)
}

func (m *model) spawn(id, cpu, prog int) int {
	if prog >= len(m.c.Progs) {
		return -1
	}
	if len(m.tasks) == m.c.Room {
		return -4
	}
	x := m.tasks[id]
	m.add(api.Task{Prog: prog, Prio: m.c.Progs[prog].Prio, Mask: x.Mask, Pin: -1, Bubble: x.Bubble}, id, m.leaf(cpu))
	return len(m.tasks) - 1
}

func (m *model) join(id, cpu, n, reg int) {
	switch {
	case n < 0 || n >= len(m.tasks):
		m.reg(id, reg, -3)
	case n == id:
		m.reg(id, reg, -1)
	case m.tasks[n].State == api.Exited:
		m.reg(id, reg, m.tasks[n].On)
	default:
		m.wait(id, cpu, api.Joining, n, reg)
		m.joins = append(m.joins, [2]int{id, n})
	}
}

// tells lets a task that waited know, and go home.
func (m *model) tells(id, n int) {
	m.reg(id, m.tasks[id].Reg, n)
	m.home(id, m.tasks[id].Last, -1)
}

// give gives a lock back; reg is -1 of a task that exits.
func (m *model) give(id, n, reg int) {
	next, ok, e := m.locks.Give(n, id)
	if e == api.OK {
		m.say(api.EvFree, id, -1, n, 0)
	}
	if reg >= 0 {
		m.reg(id, reg, -int(e))
	}
	if ok {
		m.say(api.EvOwn, next, -1, n, m.locks.Socket(n))
		m.tells(next, 0)
	}
}

func (m *model) exit(id, code int) {
	m.stop(id, api.WhyExit)
	m.tasks[id].State, m.tasks[id].On = api.Exited, code
	m.say(api.EvExit, id, -1, code, 0)
	for _, n := range m.locks.Owned(id) {
		m.give(id, n, -1)
	}
	var left [][2]int
	for _, j := range m.joins {
		if j[1] == id {
			m.tells(j[0], code)
		} else {
			left = append(left, j)
		}
	}
	m.joins = left
}

// look is all that the model answers.
func (m *model) look() view {
	v := view{Count: len(m.tasks), Tasks: slices.Clone(m.tasks), Running: map[int]int{}, Online: cpuset.Of(m.online...), Loads: slices.Clone(m.loads), Time: m.time}
	v.Flat = api.Flat{Online: v.Online, Time: m.time}
	for id, x := range m.tasks {
		v.Masks = append(v.Masks, m.workers(x))
		v.Flat.Tasks = append(v.Flat.Tasks, api.FlatTask{Prog: x.Prog, Pc: x.Pc, Regs: x.Regs, State: x.State, On: x.On})
		if x.State == api.Running {
			v.Running[x.On] = id
		}
	}
	for d := range m.x.Domains {
		v.Queues = append(v.Queues, slices.Clone(m.queues[d]))
	}
	for n := range m.c.Locks {
		owner, ok := m.locks.Owner(n)
		if !ok {
			owner = -1
		}
		v.Owners, v.Waiting = append(v.Owners, owner), append(v.Waiting, m.locks.Waiting(n))
	}
	v.Flat.Owners = slices.Clone(v.Owners)
	for b := range m.bubbles.Len() {
		x, _ := m.bubbles.Get(b)
		v.Bubbles = append(v.Bubbles, x)
	}
	return v
}
