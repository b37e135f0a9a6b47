package judge_test

import (
	"math/rand"
	"slices"
	"strconv"
	"testing"

	"pinfold/api"
	"pinfold/cpuset"
	"pinfold/flat"
	"pinfold/judge"
	"pinfold/near"
	"pinfold/prog"
	"pinfold/sched"
	"pinfold/topo"
)

// last is the last event ahead that is such a one.
func last(ahead []api.Event, is func(e api.Event) bool) (api.Event, bool) {
	for _, e := range slices.Backward(ahead) {
		if is(e) {
			return e, true
		}
	}
	return api.Event{}, false
}

// The readings below are second ones of the chapter: is something wrong with the event e, if nothing is with those ahead?

func notAlone(ahead []api.Event, e api.Event) bool {
	moves := func(x api.Event) bool { return x.Kind == api.EvDispatch || x.Kind == api.EvStop }
	own, _ := last(ahead, func(x api.Event) bool { return moves(x) && x.Task == e.Task })
	there, _ := last(ahead, func(x api.Event) bool { return moves(x) && x.Cpu == e.Cpu })
	switch e.Kind {
	case api.EvDispatch:
		return own.Kind == api.EvDispatch || there.Kind == api.EvDispatch
	case api.EvStop, api.EvIns:
		return own.Kind != api.EvDispatch || own.Cpu != e.Cpu
	}
	return false
}

func notOnline(online api.Set) func(ahead []api.Event, e api.Event) bool {
	return func(ahead []api.Event, e api.Event) bool {
		turn, turned := last(ahead, func(x api.Event) bool {
			return x.Cpu == e.Cpu && (x.Kind == api.EvOnline || x.Kind == api.EvOffline)
		})
		is := turn.Kind == api.EvOnline || !turned && slices.Contains(cpuset.List(online), e.Cpu)
		isCpu := e.Cpu >= 0 && e.Cpu < api.MaxCpu // other numbers are no workers'
		return (e.Kind == api.EvDispatch || e.Kind == api.EvIns) && !(is && isCpu)
	}
}

func notOnce(ahead []api.Event, e api.Event) bool {
	_, gone := last(ahead, func(x api.Event) bool { return x.Kind == api.EvExit && x.Task == e.Task })
	others := []int{api.EvFree, api.EvOnline, api.EvOffline, api.EvTick, api.EvFail, api.EvIdle, api.EvMask, api.EvBubble}
	return gone && e.Kind >= api.EvNew && e.Kind <= api.EvReg && !slices.Contains(others, e.Kind)
}

func notOwner(ahead []api.Event, e api.Event) bool {
	x, _ := last(ahead, func(x api.Event) bool { return x.A == e.A && (x.Kind == api.EvOwn || x.Kind == api.EvFree) })
	return e.Kind == api.EvOwn && x.Kind == api.EvOwn || e.Kind == api.EvFree && (x.Kind != api.EvOwn || x.Task != e.Task)
}

// waitOf is the last wait for the lock of a task that waits for it behind those events.
func waitOf(ahead []api.Event, lock, task int) (api.Event, bool) {
	x, _ := last(ahead, func(x api.Event) bool {
		return x.Task == task && (x.Kind == api.EvOwn && x.A == lock || x.Kind == api.EvWait && x.A == api.Blocked && x.B == lock)
	})
	return x, x.Kind == api.EvWait
}

// stays is how often, one behind the other, the lock stayed in its socket up to the own that comes behind those.
func stays(ahead []api.Event, e api.Event) int {
	_, waited := waitOf(ahead, e.A, e.Task)
	before := -1 // the socket ahead of the first own
	for i, x := range slices.Backward(ahead) {
		if x.Kind != api.EvOwn || x.A != e.A {
			continue
		}
		if waited && x.B == e.B {
			return stays(ahead[:i], x) + 1
		}
		return 0
	}
	if waited && e.B == before {
		return 1
	}
	return 0
}

// elsewhere tells whether another task than e's waits for e's lock in another socket.
func elsewhere(x api.Topo, ahead []api.Event, e api.Event) bool {
	return slices.ContainsFunc(ahead, func(y api.Event) bool {
		wait, waits := waitOf(ahead, e.A, y.Task)
		if !waits || y.Task == e.Task {
			return false
		}
		socket := 0
		for d, domain := range x.Domains {
			if domain.Depth == 1 && cpuset.Has(domain.Cpus, wait.Cpu) {
				socket = d
			}
		}
		return socket != e.B
	})
}

func notBudget(x api.Topo) func(ahead []api.Event, e api.Event) bool {
	return func(ahead []api.Event, e api.Event) bool {
		return e.Kind == api.EvOwn && stays(ahead, e) > api.Budget && elsewhere(x, ahead, e)
	}
}

// placeOf is the place of the first event with which something is wrong.
func placeOf(l []api.Event, isWrong func(ahead []api.Event, e api.Event) bool) int {
	for i, e := range l {
		if isWrong(l[:i], e) {
			return i
		}
	}
	return -1
}

// faults are the places of all faults of a row, by their numbers, as by the second readings; that of none is missing.
func faults(x api.Topo, c api.Config, online api.Set, l []api.Event) [api.FaultBudget + 1]int {
	_, played := flat.Play(flat.New(x.Domains[0].Cpus, c.Locks), c.Progs, l)
	return [...]int{-1, played, placeOf(l, notAlone), placeOf(l, notOnline(online)), placeOf(l, notOnce), placeOf(l, notOwner), placeOf(l, notBudget(x))}
}

// compare holds all answers about a row against the second readings, and tells those.
func compare(t *testing.T, x api.Topo, c api.Config, online api.Set, l []api.Event) [api.FaultBudget + 1]int {
	t.Helper()
	want := faults(x, c, online, l)
	got := [...]int{-1, want[api.FaultFlat], judge.Alone(l), judge.Online(online, l), judge.Once(l), judge.Owners(l), judge.Budget(x, l)}
	if got != want {
		t.Fatalf("%v, not %v: %s", got, want, shown(l))
	}
	want[api.FaultOnline] = placeOf(l, notOnline(x.Domains[0].Cpus)) // which Judge speaks of
	fault := slices.IndexFunc(want[:], func(at int) bool { return at >= 0 })
	wantAt := -1
	if fault < 0 {
		fault = api.FaultNone
	} else {
		wantAt = want[fault]
	}
	if got, at := judge.Judge(x, c, l); got != fault || at != wantAt {
		t.Fatalf("Judge: %d, %d, not %d, %d: %s", got, at, fault, wantAt, shown(l))
	}
	return want
}

// anyEvent is one of small numbers, of kinds that matter mostly.
func anyEvent(r *rand.Rand, kinds []int) api.Event {
	e := api.Event{Kind: kinds[r.Intn(len(kinds))], Task: r.Intn(4), Cpu: r.Intn(9) - 1, A: r.Intn(2), B: r.Intn(6) - 1}
	if e.Kind == api.EvWait {
		e.A, e.B = []int{api.Blocked, api.Blocked, api.Blocked, api.Blocked, api.Joining}[r.Intn(5)], r.Intn(2)
	}
	return e
}

func TestRandomRows(t *testing.T) { // P23.1 to P23.4, P23.6
	x, c := tree(t, two), busyConfig(t)
	runners := []int{api.EvDispatch, api.EvDispatch, api.EvIns, api.EvStop, api.EvStop, api.EvOnline, api.EvOffline, api.EvOut}
	all := make([]int, api.EvReg+3)
	for i := range all {
		all[i] = i
	}
	var found [api.FaultBudget + 1]int
	for seed := range int64(20000) {
		r := rand.New(rand.NewSource(seed))
		var l []api.Event
		for range r.Intn(25) {
			e := anyEvent(r, [][]int{runners, all}[seed%2])
			if r.Intn(3) > 0 && (notAlone(l, e) || notOnline(x.Domains[0].Cpus)(l, e) || notOwner(l, e)) { // so that rows go on for a while
				continue
			}
			l = append(l, e)
		}
		online := cpuset.Of(0, 1, 2, 3, 4, 5, 6)
		if r.Intn(3) == 0 {
			online = cpuset.Drop(online, r.Intn(7))
		}
		for fault, at := range compare(t, x, c, online, l) {
			if at > 2 {
				found[fault]++
			}
		}
	}
	for _, fault := range []int{api.FaultAlone, api.FaultOnline, api.FaultOnce, api.FaultOwner} {
		if found[fault] < 100 {
			t.Error("hardly found:", fault, found[fault])
		}
	}
}

func TestRandomLocks(t *testing.T) { // P23.3, P23.6: rows by which locks stay
	x := tree(t, two)
	found, none := 0, 0
	for seed := range int64(20000) {
		r := rand.New(rand.NewSource(seed))
		var l []api.Event
		rare := 2 + r.Intn(12)
		for range 10 + r.Intn(30) {
			task, lock := r.Intn(5), r.Intn(rare)/(rare-1) // mostly 0
			wait := api.Event{Kind: api.EvWait, Task: task, Cpu: r.Intn(5), A: api.Blocked, B: lock}
			if r.Intn(rare) == 0 {
				wait.Cpu = r.Intn(9) - 1
			}
			own := api.Event{Kind: api.EvOwn, Task: task, A: lock, B: 1}
			if r.Intn(rare) == 0 {
				own.B = r.Intn(6) - 1
			}
			switch r.Intn(5) {
			case 0:
				l = append(l, wait)
			case 1:
				l = append(l, own)
			default:
				l = append(l, wait, own)
			}
		}
		want := placeOf(l, notBudget(x))
		if want >= 0 {
			found++
		} else {
			none++
		}
		if seed%50 == 0 {
			judged(t, "Budget", l, want, func(l []api.Event) int { return judge.Budget(x, l) })
		} else if got := judge.Budget(x, l); got != want {
			t.Fatalf("Budget: %d, not %d: %s", got, want, shown(l))
		}
	}
	if found < 500 || none < 500 {
		t.Error("hardly found:", found, none)
	}
}

// anyProg is a program that takes locks, and gives them, and does all else at times.
func anyProg(r *rand.Rand) api.Prog {
	n := 3 + r.Intn(10)
	var p api.Prog
	for i := range n {
		x := api.Ins{Op: []int{api.InsSet, api.InsJump, api.InsJnz, api.InsYield, api.InsSpawn, api.InsJoin, api.InsLock, api.InsLock, api.InsLock, api.InsUnlock, api.InsUnlock, api.InsUnlock, api.InsSleep, api.InsMask, api.InsOut, api.InsExit}[r.Intn(16)], A: r.Intn(4)}
		if i == n-1 {
			x.Op = api.InsJump
		}
		switch x.Op {
		case api.InsJump:
			x.A, x.N = 0, int32(r.Intn(n)*r.Intn(2))
		case api.InsYield:
			x.A = 0
		case api.InsJoin:
			x.B = r.Intn(4)
		case api.InsJnz:
			x.N = int32(r.Intn(n))
		case api.InsSet, api.InsSpawn, api.InsMask:
			x.N = int32(r.Intn(4))
		case api.InsLock, api.InsUnlock:
			x.N = int32(r.Intn(2))
		}
		p.Code = append(p.Code, x)
	}
	return p
}

// anyTree is a machine of up to four sockets, which may have parts.
func anyTree(t *testing.T, r *rand.Rand) api.Topo {
	t.Helper()
	text, cpu := "domain m {", r.Intn(3)
	for s := range 1 + r.Intn(4) {
		name := " domain s" + strconv.Itoa(s)
		text += name + " {"
		for d := range 1 + r.Intn(3) {
			text += name + "d" + strconv.Itoa(d) + " queue " + strconv.Itoa(1+r.Intn(4)) + " cpus " + strconv.Itoa(cpu) + "-" + strconv.Itoa(cpu+1) + ";"
			cpu += 2
		}
		text += " }"
	}
	return tree(t, text+" }")
}

// anyEntry is one of any kind for a machine of the tree, mostly a step.
func anyEntry(r *rand.Rand, cpus []int) api.Entry {
	cpu := func() int { return cpus[r.Intn(len(cpus))] }
	e := api.Entry{Kind: 1 + r.Intn(15), A: r.Intn(8), B: r.Intn(5) - 1, C: -1}
	if r.Intn(8) > 0 {
		e.Kind = api.EnStep
	}
	switch e.Kind {
	case api.EnStep:
		return api.Entry{Kind: api.EnStep, A: cpu(), Draw: uint(r.Intn(9))}
	case api.EnPin:
		e.B = cpu()
	case api.EnOnline, api.EnOffline:
		e.A = cpu()
	case api.EnBubble:
		e.A -= 4
	case api.EnNew:
		e.A %= 4
	}
	return e
}

// anyRow is what a machine of the tree tells of a script.
func anyRow(t *testing.T, r *rand.Rand, x api.Topo) (api.Config, []api.Event) {
	t.Helper()
	cpus := cpuset.List(x.Domains[0].Cpus)
	c := api.Config{Room: 4 + r.Intn(16), Locks: 2, Masks: []api.Set{x.Domains[0].Cpus, cpuset.Of(cpus[0]), cpuset.Of(cpus[r.Intn(len(cpus))], cpus[0]), cpuset.Range(0, 5)}}
	for range 4 {
		c.Progs = append(c.Progs, anyProg(r))
	}
	if r.Intn(2) == 0 { // one of tasks that do nothing else than wait for a lock
		c.Progs[0], c.Progs[1] = code(t, "lock r0 0, yield, unlock r0 0, jump 0"), code(t, "lock r0 0, unlock r0 0, jump 0")
	}
	m, e := sched.New(x, c)
	if e != api.OK {
		t.Fatal(e)
	}
	for range 12 {
		m.Do(api.Entry{Kind: api.EnNew, A: r.Intn(4), B: -1, C: -1})
	}
	for range 300 {
		m.Do(anyEntry(r, cpus))
	}
	return c, m.Events()
}

// broken is a row of which an event is gone, is there twice, is another one, or has gone elsewhere.
func broken(r *rand.Rand, l []api.Event) []api.Event {
	l = slices.Clone(l)
	i := r.Intn(len(l))
	e := l[i]
	switch r.Intn(5) {
	case 0:
		return slices.Delete(l, i, i+1)
	case 1:
		return slices.Insert(l, i, e)
	case 2:
		e.Task = r.Intn(12)
	case 3:
		e.Cpu = r.Intn(6)
	case 4:
		return slices.Insert(slices.Delete(l, i, i+1), r.Intn(len(l)), e)
	}
	l[i] = e
	return l
}

func TestRandomMachines(t *testing.T) { // P23.5: nothing is wrong with what a machine tells; and what is wrong with a row of it that is broken is found
	var found [api.FaultBudget + 1]int
	most := 0
	for seed := range int64(150) {
		r := rand.New(rand.NewSource(seed))
		x := anyTree(t, r)
		c, l := anyRow(t, r, x)
		if fault, at := judge.Judge(x, c, l); fault != api.FaultNone || at != -1 {
			t.Fatalf("seed %d: %d, %d: %s", seed, fault, at, shown(l))
		}
		for i, e := range l {
			if e.Kind == api.EvOwn && elsewhere(x, l[:i], e) {
				most = max(most, stays(l[:i], e))
			}
		}
		for range 10 {
			b := broken(r, l[:min(len(l), 250)])
			for fault, at := range compare(t, x, c, x.Domains[0].Cpus, b) {
				if at >= 0 {
					found[fault]++
				}
			}
		}
	}
	for _, fault := range []int{api.FaultAlone, api.FaultOnline, api.FaultOwner} {
		if found[fault] < 10 {
			t.Error("hardly found:", fault, found[fault])
		}
	}
	if most != api.Budget {
		t.Error("no lock stayed as often as it may:", most)
	}
}

func TestPrograms(t *testing.T) { // what the machines above are made with may be
	r := rand.New(rand.NewSource(1))
	for range 1000 {
		p := anyProg(r)
		if e, at := prog.Check(p); e != api.OK {
			t.Fatal(p, e, at)
		}
		if x := anyTree(t, r); !topo.May(x) || near.Socket(x, len(x.Domains)-1) == 0 {
			t.Fatal(x)
		}
	}
}
