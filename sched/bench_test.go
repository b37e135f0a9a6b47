package sched_test

import (
	"reflect"
	"slices"
	"strconv"
	"strings"
	"testing"

	"pinfold/api"
	"pinfold/cpuset"
	"pinfold/event"
	"pinfold/flat"
	"pinfold/prog"
	"pinfold/sched"
	"pinfold/topo"
)

// tree is the tree that a description describes.
func tree(t *testing.T, text string) api.Topo {
	t.Helper()
	x, e, at := topo.Parse(text)
	if e != api.OK {
		t.Fatalf("%.80q: %d, %v", text, e, at)
	}
	return x
}

// code is a program of these instructions, with a comma between two.
func code(t *testing.T, prio int, text string) api.Prog {
	t.Helper()
	lines := "prog " + strconv.Itoa(prio) + "\n"
	for line := range strings.SplitSeq(text, ", ") {
		lines += "\t" + line + "\n"
	}
	p, e, at := prog.Parse(lines)
	if e != api.OK {
		t.Fatalf("%q: %d, %d", lines, e, at)
	}
	return p
}

// machine is one of that tree and config.
func machine(t *testing.T, x api.Topo, c api.Config) *sched.Machine {
	t.Helper()
	m, e := sched.New(x, c)
	if e != api.OK || m == nil {
		t.Fatal(m, e)
	}
	return m
}

// kinds are the entries' names, by their kinds.
var kinds = []string{"", "step", "tick", "new", "mask", "pin", "unpin", "online", "offline", "bubble", "put", "seal", "place", "burst", "regen", "balance"}

// entry is that of its name and numbers; a step's second one is its draw.
func entry(t *testing.T, text string) api.Entry {
	t.Helper()
	words := strings.Fields(text)
	kind := slices.Index(kinds, words[0])
	if kind < 0 {
		t.Fatal(text)
	}
	n := [3]int{}
	for i, w := range words[1:] {
		x, err := strconv.Atoi(w)
		if err != nil {
			t.Fatal(text)
		}
		n[i] = x
	}
	if kind == api.EnStep {
		return api.Entry{Kind: kind, A: n[0], Draw: uint(n[1])}
	}
	return api.Entry{Kind: kind, A: n[0], B: n[1], C: n[2]}
}

// lines is what is told, an event a line.
func lines(l []api.Event) []string {
	var out []string
	for _, e := range l {
		out = append(out, event.Print(e))
	}
	return out
}

// view is all that a machine answers, but its events.
type view struct {
	Flat    api.Flat
	Count   int
	Tasks   []api.Task
	Masks   []api.Set
	Queues  [][]api.Ready
	Running map[int]int
	Online  api.Set
	Loads   []int
	Owners  []int
	Waiting [][]int
	Bubbles []api.Bubble
	Time    int
}

// look is what m, a machine of x, answers.
func look(m *sched.Machine, x api.Topo) view {
	v := view{Flat: m.Flat(), Count: m.Tasks(), Running: map[int]int{}, Online: m.Online(), Loads: m.Loads(), Time: m.Time()}
	for id := 0; ; id++ {
		task, ok := m.Task(id)
		if !ok {
			break
		}
		v.Tasks, v.Masks = append(v.Tasks, task), append(v.Masks, m.Mask(id))
	}
	for d := range x.Domains {
		v.Queues = append(v.Queues, m.Queue(d))
	}
	for _, cpu := range cpuset.List(x.Domains[0].Cpus) {
		if id, ok := m.Running(cpu); ok {
			v.Running[cpu] = id
		}
	}
	for n := 0; ; n++ {
		owner, waiting, ok := m.Lock(n)
		if !ok {
			break
		}
		v.Owners, v.Waiting = append(v.Owners, owner), append(v.Waiting, waiting)
	}
	for b := 0; ; b++ {
		x, ok := m.Bubble(b)
		if !ok {
			return v
		}
		v.Bubbles = append(v.Bubbles, x)
	}
}

// play does the entries of a script, a line each: the entry, and behind an arrow what it must tell, with a bar between two events. What tells a fail must answer that, and change nothing; what doesn't must answer OK.
func play(t *testing.T, m *sched.Machine, x api.Topo, c api.Config, script string) {
	t.Helper()
	for line := range strings.Lines(script) {
		line = strings.TrimSpace(line)
		if line == "" {
			continue
		}
		text, rest, _ := strings.Cut(line, "->")
		var want []string
		for w := range strings.SplitSeq(rest, "|") {
			if w = strings.TrimSpace(w); w != "" {
				want = append(want, w)
			}
		}
		before := look(m, x)
		answer := m.Do(entry(t, text))
		events := m.Events()
		if got := lines(events); !slices.Equal(got, want) {
			t.Fatalf("%s\n told %s\n not  %s", text, strings.Join(got, " | "), strings.Join(want, " | "))
		}
		refused := len(events) > 0 && events[0].Kind == api.EvFail
		if refused != (answer != api.OK) || refused && int(answer) != events[0].A {
			t.Fatal(text, answer)
		}
		after := look(m, x)
		if refused && !reflect.DeepEqual(before, after) {
			t.Fatalf("%s is refused, and changes\n%v\nto\n%v", text, before, after)
		}
		if wrong := laws(x, c, before, after, events); wrong != "" {
			t.Fatalf("%s: %s: %v", text, wrong, after)
		}
	}
}

// laws is which of P20.6 to P20.8 is broken by what a call did.
func laws(x api.Topo, c api.Config, before, after view, l []api.Event) string {
	f, bad := flat.Play(before.Flat, c.Progs, l)
	switch {
	case bad >= 0:
		return "event " + strconv.Itoa(bad) + " may not happen"
	case !flat.Same(f, after.Flat):
		return "the events come to another flat machine"
	case !flat.Right(after.Flat):
		return "the flat machine isn't right"
	}
	for id := range after.Tasks {
		if wrong := lawsOf(x, after, id); wrong != "" {
			return "task " + strconv.Itoa(id) + " " + wrong
		}
	}
	return ""
}

// places is how often a task is on a worker, in a queue, or waits for a lock.
func places(v view, id int) (runs, waits, blocked int) {
	for _, task := range v.Running {
		if task == id {
			runs++
		}
	}
	for _, q := range v.Queues {
		for _, r := range q {
			if r.Task == id {
				waits++
			}
		}
	}
	for _, l := range v.Waiting {
		for _, task := range l {
			if task == id {
				blocked++
			}
		}
	}
	return runs, waits, blocked
}

// isFree tells whether a bubble, and all round it, have burst.
func isFree(v view, b int) bool {
	for ; b >= 0; b = v.Bubbles[b].Up {
		if v.Bubbles[b].State != api.Burst {
			return false
		}
	}
	return true
}

// lawsOf is what is wrong with where a task is.
func lawsOf(x api.Topo, v view, id int) string {
	task, may := v.Tasks[id], cpuset.And(v.Masks[id], v.Online)
	runs, waits, blocked := places(v, id)
	is := func(state int) int {
		if task.State == state {
			return 1
		}
		return 0
	}
	free := isFree(v, task.Bubble)
	switch {
	case runs != is(api.Running) || waits != is(api.Waiting) || blocked != is(api.Blocked):
		return "isn't in just one place"
	case runs == 1 && (v.Running[task.On] != id || !cpuset.Has(may, task.On) || !x.Domains[task.Last].Leaf || !cpuset.Has(x.Domains[task.Last].Cpus, task.On)):
		return "runs where it may not"
	case waits == 1:
		is := func(r api.Ready) bool {
			return r.Task == id && r.Prio == task.Prio && r.Mask == v.Masks[id]
		}
		if !slices.ContainsFunc(v.Queues[task.On], is) || !cpuset.Meets(x.Domains[task.On].Cpus, may) {
			return "waits where it may not"
		}
	case task.State == api.Sleeping && task.On <= v.Time:
		return "sleeps too long"
	case task.State == api.Joining && (task.On == id || v.Tasks[task.On].State == api.Exited):
		return "joins for nothing"
	case task.State == api.Held && (free || task.On != task.Bubble):
		return "is held for nothing"
	case task.State == api.Parked && (!free || task.On != 0 || cpuset.Len(may) > 0):
		return "is parked for nothing"
	}
	if slices.Contains([]int{api.Running, api.Waiting}, task.State) && !free {
		return "isn't held"
	}
	if !slices.Contains([]int{api.Blocked, api.Joining}, task.State) && task.Reg != 0 {
		return "has a register that nothing is told in"
	}
	return ""
}
