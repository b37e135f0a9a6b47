package shell_test

import (
	"math"
	"math/rand"
	"reflect"
	"slices"
	"strconv"
	"strings"
	"testing"

	"pinfold/api"
	"pinfold/bound"
	"pinfold/cpuset"
	"pinfold/event"
	"pinfold/exec"
	"pinfold/fair"
	"pinfold/flat"
	"pinfold/judge"
	"pinfold/runs"
	"pinfold/script"
	"pinfold/shell"
	"pinfold/steal"
	"pinfold/stuck"
	"pinfold/topo"
)

// refused tells whether a report is of what was refused: no event, no answer, no machine.
func refused(r api.Report) bool {
	return r.Err != api.OK && r.Events == nil && r.Answers == nil && r.Flat.Tasks == nil && r.Flat.Owners == nil && r.Flat.Online == api.Set{} && r.Flat.Time == 0
}

// went tells whether a report is of what was run: an answer for each entry, and events that turn a machine without queues.
func went(r api.Report, x api.Topo, c api.Config, entries int) bool {
	f, bad := flat.Play(flat.New(x.Domains[0].Cpus, c.Locks), c.Progs, r.Events)
	return r.Err == api.OK && r.Line == 0 && r.Place == api.Place{} && len(r.Answers) == entries && bad == -1 && flat.Same(f, r.Flat)
}

// anyNumber is a small one mostly, else one at some edge.
func anyNumber(r *rand.Rand) int {
	if r.Intn(3) > 0 {
		return r.Intn(9) - 2
	}
	return []int{math.MinInt, math.MaxInt, -1 << 31, 1 << 31, 1<<32 + 1, 1023, 1024, 256, 255, 64, 16, 15, 1 << 20, -16}[r.Intn(14)]
}

// wildEntry is one of any numbers.
func wildEntry(r *rand.Rand) api.Entry {
	return api.Entry{Kind: r.Intn(19) - 2, A: anyNumber(r), B: anyNumber(r), C: anyNumber(r), Draw: uint(anyNumber(r))}
}

// wildConfig is one of any numbers, or one that may be.
func wildConfig(r *rand.Rand) api.Config {
	_, c, _ := anyCase(r)
	switch r.Intn(6) {
	case 0:
		c.Room = anyNumber(r)
	case 1:
		c.Locks = anyNumber(r)
	case 2:
		c.Masks = slices.Repeat([]api.Set{{}}, r.Intn(40))
	case 3:
		c.Progs = append(c.Progs, api.Prog{Prio: anyNumber(r), Code: []api.Ins{{Op: anyNumber(r), A: anyNumber(r), B: anyNumber(r), N: int32(anyNumber(r))}}})
	}
	return c
}

func TestRefusedOrRun(t *testing.T) { // P1: any description, any config, any entries
	ran, wrong, made := 0, 0, 0
	for seed := range int64(1500) {
		r := rand.New(rand.NewSource(seed))
		d := topo.Print(anyTree(r))
		for range r.Intn(3) {
			d = spoiled(r, d)
		}
		var l []api.Entry
		for range r.Intn(30) {
			l = append(l, wildEntry(r))
		}
		c := wildConfig(r)
		report := runs.Run(d, c, l)
		x, e, at := topo.Parse(d)
		switch {
		case e != api.OK:
			wrong++
			if !refused(report) || report.Err != e || report.Place != at || at.Line < 1 || at.Col < 1 || at.Off > len(d) {
				t.Fatal(seed, d, report)
			}
		case report.Err != api.OK:
			made++
			if !refused(report) || report.Err != api.ErrArg || report.Place != (api.Place{}) {
				t.Fatal(seed, c, report)
			}
		default:
			ran++
			if !went(report, x, c, len(l)) {
				t.Fatal(seed, d, c, l, report)
			}
		}
	}
	if ran < 100 || wrong < 100 || made < 100 {
		t.Error("hardly:", ran, wrong, made)
	}
}

func TestBytesRefusedOrRun(t *testing.T) { // P1: any bytes as a case, and the place of the first fault; the shell says the same
	ran, wrong := 0, 0
	for seed := range int64(1500) {
		r := rand.New(rand.NewSource(seed))
		_, _, text := anyCase(r)
		switch r.Intn(8) {
		case 0:
			raw := make([]byte, r.Intn(50))
			r.Read(raw)
			text = string(raw)
		case 1:
			text = text[:r.Intn(len(text))]
		case 2:
		default:
			text = spoiled(r, text)
		}
		report, s := runs.Text(text), shell.New()
		answer := s.Say("case " + text)
		if report.Err != api.OK {
			wrong++
			if !refused(report) || report.Err != api.ErrToken || report.Line < 1 || report.Line > 1+strings.Count(text, "\n") || answer != "line "+strconv.Itoa(report.Line) || s.Machine() != nil {
				t.Fatalf("%q: %v, %s", text, report, answer)
			}
			upTo := strings.SplitAfter(text, "\n")
			if cut := strings.Join(upTo[:min(report.Line, len(upTo))], ""); runs.Text(cut).Line != report.Line { // what stands behind the first fault doesn't matter
				t.Fatalf("%q: %v", cut, report)
			}
			continue
		}
		ran++
		x, c, l, _ := script.ParseCase(text)
		if !went(report, x, c, len(l)) || answer != "ok "+strconv.Itoa(len(report.Flat.Tasks)) || !flat.Same(s.Machine().Flat(), report.Flat) {
			t.Fatalf("%q: %v, %s", text, report, answer)
		}
	}
	if ran < 100 || wrong < 100 {
		t.Error("hardly:", ran, wrong)
	}
}

// walk lets a shell with a random case do random entries, and looks at it ahead of each and behind it.
func walk(t *testing.T, r *rand.Rand, n int, each func(w *walked)) *walked {
	t.Helper()
	w := &walked{s: shell.New()}
	x, c, text := anyCase(r)
	w.x, w.c = x, c
	w.s.Say("case " + text)
	w.after = look(w.s.Machine(), x)
	for range n {
		w.e = anyEntry(r, x, c)
		if r.Intn(20) == 0 {
			for w.e = wildEntry(r); w.e.Kind < 1 || w.e.Kind > 15; {
				w.e = wildEntry(r)
			}
			w.e, _ = script.Parse(script.Print(w.e)) // without what it hasn't
		}
		w.before = w.after
		answer := w.s.Say(script.Print(w.e))
		if answer != "" {
			answer += "\n"
		}
		events, bad := event.ParseAll(answer)
		if bad != 0 {
			t.Fatalf("%s: %q", script.Print(w.e), answer)
		}
		w.told, w.after = events, look(w.s.Machine(), x)
		w.all = append(w.all, events...)
		each(w)
	}
	return w
}

// walked is an entry that a shell did, and how its machine was ahead of it and is behind it.
type walked struct {
	s             *shell.Shell
	x             api.Topo
	c             api.Config
	e             api.Entry
	before, after view
	told          []api.Event // by the entry
	all           []api.Event // by all since the case
}

// fails tells whether the entry was refused.
func (w *walked) fails() bool { return len(event.Of(w.told, api.EvFail)) > 0 }

func TestFlat(t *testing.T) { // P2
	refusals, done := 0, 0
	for seed := range int64(100) {
		walk(t, rand.New(rand.NewSource(seed)), 150, func(w *walked) {
			if w.fails() {
				refusals++
				x := w.told[0]
				if len(w.told) != 1 || x.Task != -1 || x.Cpu != -1 || x.A <= 0 || x.B != 0 || !reflect.DeepEqual(w.before, w.after) {
					t.Fatal(seed, w.e, w.told)
				}
				return
			}
			done++
			f, bad := flat.Play(w.before.Flat, w.c.Progs, w.told)
			if bad != -1 || !flat.Same(f, w.after.Flat) || !flat.Right(f) {
				t.Fatal(seed, w.e, w.told, bad)
			}
		})
	}
	if refusals < 1000 || done < 5000 {
		t.Error("hardly:", refusals, done)
	}
}

func TestFlatRefusals(t *testing.T) { // P2: an entry that doesn't apply is the next one's nothing
	s := shell.New()
	talk(t, s, said{"case " + office, "ok 1"})
	for line, e := range map[string]int{"step 3 0": 1, "step -1 0": 1, "new 2 -1 -1": 1, "new 0 2 -1": 1, "new 0 -1 4": 1, "mask 1 0": 3, "mask 0 7": 1, "pin 0 3": 1, "pin 9 0": 3, "unpin 0": 5, "online 0": 5, "online 7": 1, "offline 9": 1, "bubble 5 0": 1, "put 0 0": 1, "seal 0": 3, "place 0 0": 3, "burst 0": 3, "regen -1": 3, "balance 3": 1} {
		before := look(s.Machine(), tree(t, "domain m { domain a queue 2 cpus 0-1 ; domain b cpus 2 ; }"))
		talk(t, s, said{line, "fail -1 -1 " + strconv.Itoa(e) + " 0"})
		if after := look(s.Machine(), tree(t, "domain m { domain a queue 2 cpus 0-1 ; domain b cpus 2 ; }")); !reflect.DeepEqual(before, after) {
			t.Error(line, before, after)
		}
	}
}

// tree is the tree that a description describes.
func tree(t *testing.T, text string) api.Topo {
	t.Helper()
	x, e, at := topo.Parse(text)
	if e != api.OK {
		t.Fatal(text, e, at)
	}
	return x
}

// places is in how many places a task is: on workers, in queues, who waits for locks; and in a state that is a place of its own.
func (v view) places(id int) int {
	n := 0
	for _, x := range v.Running {
		if x[1] == id {
			n++
		}
	}
	for _, q := range v.Queues {
		for _, r := range q {
			if r.Task == id {
				n++
			}
		}
	}
	for _, l := range v.Waiting {
		for _, task := range l {
			if task == id {
				n++
			}
		}
	}
	if s := v.Tasks[id].State; s == api.Sleeping || s == api.Joining || s == api.Held || s == api.Parked || s == api.Exited {
		n++
	}
	return n
}

// life is a task as its events tell of it.
type life struct {
	prog, pc, cpu int
	regs          [api.Regs]int32
	exited        bool
}

// live turns lives by an event, and tells whether it may be.
func live(lives map[int]*life, online map[int]bool, progs []api.Prog, e api.Event) bool {
	x := lives[e.Task]
	switch e.Kind {
	case api.EvNew:
		lives[e.Task] = &life{prog: e.A, cpu: -1}
		return x == nil
	case api.EvDispatch:
		for _, other := range lives {
			if other.cpu == e.Cpu {
				return false
			}
		}
		runs := x.cpu != -1
		x.cpu = e.Cpu
		return !runs && !x.exited && online[e.Cpu]
	case api.EvIns:
		if x.cpu != e.Cpu || !online[e.Cpu] || e.B != x.pc || progs[x.prog].Code[x.pc].Op != e.A {
			return false
		}
		x.pc, x.regs, _ = exec.Step(progs[x.prog], x.pc, x.regs)
	case api.EvStop:
		runs := x.cpu == e.Cpu
		x.cpu = -1
		return runs
	case api.EvReg:
		x.regs[e.A] = int32(e.B)
		return !x.exited
	case api.EvExit:
		again := x.exited
		x.exited = true
		return !again && x.cpu == -1
	case api.EvOnline, api.EvOffline:
		online[e.Cpu] = e.Kind == api.EvOnline
	}
	return true
}

func TestSafe(t *testing.T) { // P3
	exits, moves := 0, 0
	for seed := range int64(100) {
		lives, online := map[int]*life{}, map[int]bool{}
		known := false
		w := walk(t, rand.New(rand.NewSource(seed)), 200, func(w *walked) {
			if !known { // the tasks that the case begins with
				known = true
				for _, cpu := range cpuset.List(w.x.Domains[0].Cpus) {
					online[cpu] = true
				}
				for id, x := range w.before.Tasks {
					lives[id] = &life{prog: x.Prog, cpu: -1}
				}
			}
			for _, e := range w.told {
				if !live(lives, online, w.c.Progs, e) {
					t.Fatal(seed, w.e, e, w.told)
				}
			}
			for id, x := range w.after.Tasks {
				l := lives[id]
				if n := w.after.places(id); n != 1 || x.Pc != l.pc || x.Regs != l.regs || l.exited != (x.State == api.Exited) || (l.cpu >= 0) != (x.State == api.Running) {
					t.Fatal(seed, w.e, id, n, x, l)
				}
				if x.State == api.Running && (x.On != l.cpu || !cpuset.Has(w.after.Masks[id], x.On) || !cpuset.Has(w.after.Flat.Online, x.On)) {
					t.Fatal(seed, w.e, id, x)
				}
			}
		})
		exits += len(event.Of(w.all, api.EvExit))
		moves += len(event.Of(w.all, api.EvMove))
		if fault, at := judge.Judge(w.x, w.c, slices.Concat(starts(w), w.all)); fault != api.FaultNone || w.s.Say("judge") != "0 -1" {
			t.Fatal(seed, fault, at)
		}
	}
	if exits < 50 || moves < 1 {
		t.Error("hardly:", exits, moves)
	}
}

// starts is what the entries told with which the case begins.
func starts(w *walked) []api.Event {
	_, _, l := w.s.Case()
	report := runs.Run(topo.Print(w.x), w.c, l)
	return report.Events[:len(report.Events)-len(w.all)]
}

// turnsOf is steps of the workers by turns, with ticks among them; and within how many entries, one behind the other, each of them has one.
func turnsOf(r *rand.Rand, cpus []int, n int) ([]api.Entry, int) {
	var l []api.Entry
	for _, e := range fair.Round(cpus, n) {
		if r.Intn(12) == 0 {
			l = append(l, api.Entry{Kind: api.EnTick})
		}
		l = append(l, e)
	}
	window := 0
	for _, cpu := range cpus {
		window = max(window, fair.Gap(l, cpu)+1)
	}
	return l, window
}

func TestServed(t *testing.T) { // P4
	longest := 0
	for seed := range int64(60) {
		r := rand.New(rand.NewSource(seed))
		x := anyTree(r)
		for len(cpuset.List(x.Domains[0].Cpus)) > 3 {
			x = anyTree(r)
		}
		cpus, room := cpuset.List(x.Domains[0].Cpus), 3+r.Intn(20)
		s := shell.New()
		begin := "case machine " + topo.Print(x) + "\nroom " + strconv.Itoa(room) + "\nlocks 1\nprog 0\n\tyield\n\tlock r0 0\n\tunlock r0 0\n\tjump 0\nprog 1\n\tset r1 2\n\tsleep r1\n\tset r2 3\n\tjump 0\nprog 0\n\tset r3 4\n\tjump 0\ngo\n"
		for i := range room {
			begin += "new " + strconv.Itoa([]int{0, 2, r.Intn(3)}[min(i, 2)]) + " -1 -1\n"
		}
		talk(t, s, said{begin, "ok " + strconv.Itoa(room)})
		l, window := turnsOf(r, cpus, 100*room*len(cpus))
		most := bound.Dispatch(x, room, window)
		longest = max(longest, 100*waited(t, s, l, most)/most)
	}
	if longest < 10 {
		t.Error("tasks hardly wait:", longest)
	}
}

// waited lets a shell do entries, and tells for how many a task waits at most, while none of a higher priority does.
func waited(t *testing.T, s *shell.Shell, l []api.Entry, most int) int {
	t.Helper()
	since, longest := map[int]int{}, 0
	for _, e := range l {
		m := s.Machine()
		highest := 0
		for id := range m.Tasks() {
			if x, _ := m.Task(id); x.State == api.Waiting {
				highest = max(highest, x.Prio)
			}
		}
		s.Say(script.Print(e))
		for id := range m.Tasks() {
			x, _ := m.Task(id)
			if since[id]++; x.State != api.Waiting || x.Prio < highest {
				since[id] = 0
			}
			if longest = max(longest, since[id]); longest > most {
				t.Fatalf("task %d waits for %d entries, not %d", id, longest, most)
			}
		}
	}
	return longest
}

// waiter is a task that waits for a lock: its socket, how often others had it since, and how often they may.
type waiter struct{ socket, owns, most int }

// turns goes over events, and tells of the first one by which a lock has two owners, is given back by another one, or lets somebody wait too long; -1: none.
func turns(x api.Topo, l []api.Event) int {
	owners, waiters := map[int]int{}, map[int]map[int]*waiter{}
	for i, e := range l {
		owner, has := owners[e.A]
		switch {
		case e.Kind == api.EvOwn && has, e.Kind == api.EvFree && (!has || owner != e.Task):
			return i
		case e.Kind == api.EvFree:
			delete(owners, e.A)
		case e.Kind == api.EvOwn:
			owners[e.A] = e.Task
			delete(waiters[e.A], e.Task)
			for _, w := range waiters[e.A] {
				if w.owns++; w.owns > w.most {
					return i
				}
			}
		case e.Kind == api.EvWait && e.A == api.Blocked:
			socket, ahead := 0, 0
			for d, domain := range x.Domains {
				if domain.Depth == 1 && cpuset.Has(domain.Cpus, e.Cpu) {
					socket = d
				}
			}
			if waiters[e.B] == nil {
				waiters[e.B] = map[int]*waiter{}
			}
			for _, w := range waiters[e.B] {
				if w.socket == socket {
					ahead++
				}
			}
			waiters[e.B][e.Task] = &waiter{socket, 0, bound.Lock(x, ahead)}
		}
	}
	return -1
}

func TestLocks(t *testing.T) { // P5
	owns, waits := 0, 0
	for seed := range int64(60) {
		r := rand.New(rand.NewSource(seed))
		x := anyTree(r)
		s := shell.New()
		text := "machine " + topo.Print(x) + "\nroom 20\nlocks 2\nprog 0\n\tlock r0 0\n\tyield\n\tunlock r0 0\n\tjump 0\nprog 0\n\tlock r0 0\n\tlock r1 1\n\tyield\n\tunlock r0 0\n\tunlock r1 1\n\tjump 0\nprog 0\n\tlock r0 1\n\tyield\n\texit r0\ngo\n"
		if got := s.Say("case " + text + strings.Repeat("new 0 -1 -1\nnew 1 -1 -1\nnew 2 -1 -1\n", 5)); got != "ok 15" {
			t.Fatal(got)
		}
		all := cpuset.List(x.Domains[0].Cpus)
		for range 500 {
			e := api.Entry{Kind: api.EnStep, A: all[r.Intn(len(all))]}
			if r.Intn(15) == 0 {
				e = anyEntry(r, x, api.Config{Progs: make([]api.Prog, 3)})
			}
			s.Say(script.Print(e))
		}
		_, c, l := s.Case()
		told := runs.Run(topo.Print(x), c, l).Events
		if at := turns(x, told); at >= 0 || judge.Owners(told) >= 0 || judge.Budget(x, told) >= 0 {
			t.Fatal(seed, at, judge.Owners(told), judge.Budget(x, told))
		}
		owns += len(event.Of(told, api.EvOwn))
		waits += len(event.Of(told, api.EvWait))
	}
	if owns < 1000 || waits < 300 {
		t.Error("hardly:", owns, waits)
	}
}

// nearest is the domain from d on, on its way up, where a task with these workers may wait; -1: none.
func nearest(x api.Topo, d int, may api.Set, free []int) int {
	if !cpuset.Meets(may, x.Domains[0].Cpus) {
		return -1
	}
	for d > 0 && !(free[d] > 0 && cpuset.Meets(may, x.Domains[d].Cpus)) {
		d = x.Domains[d].Up
	}
	return d
}

// gone is where tasks wait when a worker has gone: domain by domain, and last the one that ran there; -1: parked.
func gone(w *walked) map[int]int {
	online := cpuset.Drop(w.before.Flat.Online, w.e.A)
	free := make([]int, len(w.x.Domains))
	for d, x := range w.x.Domains {
		free[d] = x.Room - len(w.before.Queues[d])
	}
	to := map[int]int{}
	send := func(id, d int) {
		to[id] = nearest(w.x, d, cpuset.And(w.before.Masks[id], online), free)
		if to[id] >= 0 {
			free[to[id]]--
		}
	}
	for d, q := range w.before.Queues {
		for _, r := range q {
			if !cpuset.Meets(cpuset.And(w.before.Masks[r.Task], online), w.x.Domains[d].Cpus) {
				free[d]++
				send(r.Task, max(w.x.Domains[d].Up, 0))
			}
		}
	}
	for _, x := range w.before.Running {
		if leaf, _ := topo.Leaf(w.x, x[0]); x[0] == w.e.A {
			send(x[1], leaf)
		}
	}
	return to
}

func TestComeAndGo(t *testing.T) { // P6
	stopped, moved, parked, back := 0, 0, 0, 0
	for seed := range int64(300) {
		r := rand.New(rand.NewSource(seed))
		walk(t, r, 150, func(w *walked) {
			for id, x := range w.after.Tasks {
				may := cpuset.And(w.after.Masks[id], w.after.Flat.Online)
				if x.State == api.Parked && may != (api.Set{}) || x.State == api.Waiting && !cpuset.Meets(may, w.x.Domains[x.On].Cpus) {
					t.Fatal(seed, w.e, id, x)
				}
			}
			if w.e.Kind == api.EnOnline && !w.fails() {
				for id, x := range w.before.Tasks {
					if x.State == api.Parked && cpuset.Has(w.before.Masks[id], w.e.A) {
						back++
						if w.after.Tasks[id].State != api.Waiting {
							t.Fatal(seed, w.e, id, w.after.Tasks[id])
						}
					}
				}
			}
			if w.e.Kind != api.EnOffline || w.fails() {
				return
			}
			to := gone(w)
			for id, x := range w.after.Tasks {
				old := w.before.Tasks[id]
				d, goes := to[id]
				switch {
				case x.Pc != old.Pc || x.Regs != old.Regs:
					t.Fatal(seed, w.e, id, "goes on")
				case !goes && (x.State != old.State || x.On != old.On):
					t.Fatal(seed, w.e, id, old, x)
				case goes && d < 0 && x.State != api.Parked, goes && d >= 0 && (x.State != api.Waiting || x.On != d):
					t.Fatal(seed, w.e, id, old, x, d)
				}
				if goes && old.State == api.Running {
					stopped++
				} else if goes && d >= 0 {
					moved++
				} else if goes {
					parked++
				}
			}
		})
	}
	if stopped < 100 || moved < 20 || parked < 20 || back < 50 {
		t.Error("hardly:", stopped, moved, parked, back)
	}
}

// caseOf is the line that begins a case.
func caseOf(description string, room, locks int, progs ...string) string {
	x, _, _ := topo.Parse(description)
	text := "case machine " + topo.Print(x) + "\nroom " + strconv.Itoa(room) + "\nlocks " + strconv.Itoa(locks) + "\n"
	for _, p := range progs {
		text += "prog 0\n\t" + strings.ReplaceAll(p, ", ", "\n\t") + "\n"
	}
	return text + "go\n"
}

func TestTenExamples(t *testing.T) { // the ten of DOC.md
	s := shell.New()
	two := "domain m { domain a cpus 0-1; domain b cpus 2; }"
	pair := "domain m { domain a cpus 0; domain b cpus 1; }"
	talk(t, s, said{caseOf(two, 4, 0), "ok 0"}, said{"domains", "m a b"}, said{"online", "0-2"}) // 1
	if x, _, _ := s.Case(); x.Domains[0].Room != 8 || x.Domains[1].Room != 8 || x.Domains[2].Room != 8 {
		t.Error(x)
	}
	talk(t, s, said{caseOf(two, 4, 0, "set r1 5, out r1, exit r1") + "new 0 -1 -1\n", "ok 1"}, // 2
		said{"step 0 0", "dispatch 0 0 0 0"}, said{"step 0 0", "ins 0 0 1 0"}, said{"step 0 0", "ins 0 0 13 1\nout 0 0 5 0"}, said{"step 0 0", "ins 0 0 14 2\nstop 0 0 7 0\nexit 0 -1 5 0"})
	talk(t, s, said{caseOf(two, 4, 0, "set r1 5, set r1 5, set r1 5, set r1 5, set r1 5, jump 0") + "new 0 -1 -1\n", "ok 1"}, // 3
		said{"step 0 0", "dispatch 0 0 0 0"}, said{"step 0 0", "ins 0 0 1 0"}, said{"step 0 0", "ins 0 0 1 1"}, said{"step 0 0", "ins 0 0 1 2"}, said{"step 0 0", "ins 0 0 1 3\nstop 0 0 1 0\nready 0 -1 1 0"})
	talk(t, s, said{caseOf(two, 4, 0, "jump 0") + "new 0 -1 -1\npin 0 1\n", "ok 1"}, // 4
		said{"offline 1", "offline -1 1 0 0\npark 0 -1 0 0"}, said{"online 1", "online -1 1 0 0\nready 0 -1 1 0"}, said{"queue 1", "0:0:2"})
	talk(t, s, said{caseOf("domain m cpus 3;", 4, 0), "ok 0"}, said{"offline 3", "fail -1 -1 7 0"}, said{"online", "3"}) // 5
	lock := "lock r0 0, out r0, unlock r0 0, exit r0"
	talk(t, s, said{caseOf(two, 4, 1, lock) + strings.Repeat("new 0 -1 -1\n", 3), "ok 3"}, // 6: of the tasks 0 (for its 1), 1 (for its 2) and 2
		said{"step 0 0", "dispatch 0 0 0 0"}, said{"step 0 0", "ins 0 0 9 0\nown 0 -1 0 1\nreg 0 -1 0 0"},
		said{"step 2 0", "dispatch 1 2 0 0"}, said{"step 2 0", "ins 1 2 9 0\nstop 1 2 3 0\nwait 1 2 4 0"},
		said{"step 1 0", "dispatch 2 1 0 0"}, said{"step 1 0", "ins 2 1 9 0\nstop 2 1 3 0\nwait 2 1 4 0"}, said{"lock 0", "0 1 2"},
		said{"step 0 0", "ins 0 0 13 1\nout 0 0 0 0"}, said{"step 0 0", "ins 0 0 10 2\nfree 0 -1 0 0\nreg 0 -1 0 0\nown 2 -1 0 1\nreg 2 -1 0 0\nready 2 -1 1 0"}, said{"lock 0", "2 1"},
		said{"step 1 0", "dispatch 2 1 1 0"}, said{"step 1 0", "ins 2 1 13 1\nout 2 1 0 0"}, said{"step 1 0", "ins 2 1 10 2\nfree 2 -1 0 0\nreg 2 -1 0 0\nown 1 -1 0 2\nreg 1 -1 0 0\nready 1 -1 2 0"}, said{"lock 0", "1"})
	talk(t, s, said{caseOf(two, 4, 0, "jump 0") + "bubble -1 -1\nnew 0 -1 -1\nnew 0 -1 -1\n", "ok 2"}, // 7
		said{"put 0 0", "mask 0 -1 3 0\nhold 0 -1 0 0"}, said{"put 1 0", "mask 1 -1 3 0\nhold 1 -1 0 0"}, said{"seal 0", "bubble -1 -1 0 2"}, said{"place 0 1", "bubble -1 -1 0 3"}, said{"burst 0", "bubble -1 -1 0 4\nready 0 -1 1 0\nready 1 -1 1 0"})
	talk(t, s, said{caseOf(pair, 4, 2, "lock r0 0, lock r0 1, jump 0", "lock r0 1, lock r0 0, jump 0") + "new 0 -1 -1\nnew 1 -1 -1\nstep 0 0\nstep 1 0\nstep 0 0\nstep 1 0\nstep 0 0\nstep 1 0\n", "ok 2"}, said{"lock 0", "0 1"}, said{"lock 1", "1 0"}) // 8
	if got := stuck.Stuck(stuck.Waits(s.Machine(), 2)); !slices.Equal(got, []int{0, 1}) {
		t.Error(got)
	}
	talk(t, s, said{caseOf(pair, 4, 0), "ok 0"}, said{"step 9 0", "fail -1 -1 1 0"}) // 9
	for order := range 1 << 12 {                                                     // 10
		d := steal.New(1, 1)
		d.Push(7)
		for d.Busy(0) {
			d.Step(0)
		}
		d.Pop()
		d.Steal(1)
		took, other := 0, 0
		for i := 0; d.Busy(0) || d.Busy(1); i++ {
			who := order >> (i % 12) & 1
			if !d.Busy(who) {
				who = 1 - who
			}
			if x, _ := d.Step(who); x.Done && x.How == 1 && x.X == 7 {
				took++
			} else if x.Done && (x.How == 3 || x.How == 5) {
				other++
			}
		}
		if took != 1 || other != 1 {
			t.Fatal(order, took, other)
		}
	}
}
