package shell_test

import (
	"fmt"
	"math/rand"
	"reflect"
	"regexp"
	"slices"
	"strconv"
	"strings"
	"testing"

	"pinfold/api"
	"pinfold/cpuset"
	"pinfold/event"
	"pinfold/judge"
	"pinfold/prog"
	"pinfold/sched"
	"pinfold/script"
	"pinfold/shell"
	"pinfold/topo"
)

// reading is a second reading of the chapter: it has the case alone, and makes a machine of it for each line anew.
type reading struct {
	is bool
	x  api.Topo
	c  api.Config
	l  []api.Entry
}

// machine is that of the case, and what each entry told.
func (r *reading) machine() (*sched.Machine, [][]api.Event) {
	m, e := sched.New(r.x, r.c)
	if e != api.OK {
		panic(e)
	}
	var told [][]api.Event
	for _, x := range r.l {
		m.Do(x)
		told = append(told, m.Events())
	}
	return m, told
}

var (
	caseLine   = regexp.MustCompile(`\Acase(?: |\z)`)
	plainLine  = regexp.MustCompile(`\A(online|loads|time|tasks|running|waits|judge|text|undo|domains)(?: |\z)`)
	numberLine = regexp.MustCompile(`\A(task|queue|lock|bubble|leaf|encode) (0|-?[1-9][0-9]{0,17})\z`)
)

// say is what is answered.
func (r *reading) say(line string) string {
	if at := caseLine.FindStringIndex(line); at != nil {
		x, c, l, bad := script.ParseCase(line[at[1]:])
		if bad > 0 {
			return fmt.Sprint("line ", bad)
		}
		*r = reading{true, x, c, l}
		m, _ := r.machine()
		return fmt.Sprint("ok ", m.Tasks())
	}
	if !r.is {
		return "none"
	}
	if e, ok := script.Parse(line); ok {
		r.l = append(slices.Clone(r.l), e)
		_, told := r.machine()
		return strings.TrimSuffix(event.PrintAll(told[len(told)-1]), "\n")
	}
	if m := plainLine.FindStringSubmatch(line); m != nil {
		return r.plain(m[1])
	}
	if m := numberLine.FindStringSubmatch(line); m != nil {
		n, _ := strconv.Atoi(m[2])
		return r.numbered(m[1], n)
	}
	return "what?"
}

// list is things with a blank between two.
func list[T any](l ...T) string { return strings.Trim(fmt.Sprint(l), "[]") }

// plain answers lines without a number.
func (r *reading) plain(word string) string {
	m, told := r.machine()
	events := slices.Concat(told...)
	switch word {
	case "online":
		return cpuset.Print(m.Flat().Online)
	case "loads":
		return list(m.Loads()...)
	case "time":
		return list(len(event.Of(events, api.EvTick)))
	case "tasks":
		return list(len(event.Of(events, api.EvNew)))
	case "running", "waits":
		var runs []string
		waits := 0
		for cpu := range api.MaxCpu {
			for id, x := range m.Flat().Tasks {
				if x.State == api.Running && x.On == cpu {
					runs = append(runs, fmt.Sprintf("%d:%d", cpu, id))
				}
				if x.State == api.Waiting && cpu == 0 {
					waits++
				}
			}
		}
		if word == "waits" {
			return list(waits)
		}
		return list(runs...)
	case "judge":
		return list(judge.Judge(r.x, r.c, events))
	case "text":
		text := script.PrintCase(r.x, r.c, r.l)
		return text[:len(text)-1]
	case "undo":
		if len(r.l) == 0 {
			return "none"
		}
		r.l = r.l[:len(r.l)-1]
		return "ok"
	}
	return strings.Join(strings.Fields(regexp.MustCompile(`domain (\w+)|.`).ReplaceAllString(topo.Print(r.x), "$1 ")), " ")
}

// numbered answers lines with a number.
func (r *reading) numbered(word string, n int) string {
	m, _ := r.machine()
	switch word {
	case "task":
		if x, ok := m.Task(n); ok {
			workers := x.Mask
			if x.Pin >= 0 {
				workers = cpuset.And(workers, cpuset.Of(x.Pin))
			}
			for b := x.Bubble; b >= 0; {
				in, _ := m.Bubble(b)
				workers, b = cpuset.And(workers, in.Mask), in.Up
			}
			return list(x.Prog, x.Pc, x.Prio, x.Pin, x.Bubble, x.State, x.On, x.Last) + " " + list(x.Regs[:]...) + " " + cpuset.Print(workers)
		}
	case "queue":
		if n >= 0 && n < len(r.x.Domains) {
			var l []string
			for _, x := range m.Queue(n) {
				l = append(l, fmt.Sprintf("%d:%d:%d", x.Task, x.Prio, x.Stamp))
			}
			return list(l...)
		}
	case "lock":
		if owners := m.Flat().Owners; n >= 0 && n < len(owners) {
			_, waiting, _ := m.Lock(n)
			return list(append([]int{owners[n]}, waiting...)...)
		}
	case "bubble":
		if b, ok := m.Bubble(n); ok {
			return list(b.Up, b.State, b.Home)
		}
	case "leaf":
		for d, x := range r.x.Domains {
			if x.Leaf && slices.Contains(cpuset.List(x.Cpus), n) {
				return fmt.Sprintf("%d:%s", d, x.Name)
			}
		}
	case "encode":
		if n >= 0 && n < len(r.c.Progs) {
			text := prog.Print(r.c.Progs[n])
			return text[:len(text)-1]
		}
	}
	return "what?"
}

// anyTree is a tree with leaves of a worker or two each, and little room.
func anyTree(r *rand.Rand) api.Topo {
	n, cpu, most := 0, r.Intn(3)*30, 3+r.Intn(2)*6
	var domain func(depth int) string
	domain = func(depth int) string {
		n++
		text := "domain d" + strconv.Itoa(n) + " queue " + strconv.Itoa(1+r.Intn(most))
		if depth < 3 && (depth == 0 && r.Intn(12) > 0 || r.Intn(3) == 0) {
			text += " {"
			for range 1 + r.Intn(3) {
				text += " " + domain(depth+1)
			}
			return text + " }"
		}
		cpu += 1 + r.Intn(2)*r.Intn(2)
		text += " cpus " + strconv.Itoa(cpu)
		if r.Intn(2) == 0 {
			cpu++
			text += "," + strconv.Itoa(cpu)
		}
		return text + ";"
	}
	x, e, at := topo.Parse(domain(0))
	if e != api.OK {
		panic(at)
	}
	return x
}

// anyProg is a program of instructions of all kinds, with small numbers.
func anyProg(r *rand.Rand) api.Prog {
	n := 2 + r.Intn(9)
	p := api.Prog{Prio: r.Intn(2) * r.Intn(4)}
	for i := range n {
		x := api.Ins{Op: []int{api.InsSet, api.InsSet, api.InsAdd, api.InsSub, api.InsJump, api.InsJnz, api.InsYield, api.InsSpawn, api.InsJoin, api.InsLock, api.InsLock, api.InsLock, api.InsUnlock, api.InsUnlock, api.InsSleep, api.InsMask, api.InsOut}[r.Intn(17)], A: r.Intn(4)}
		if i == n-1 {
			x.Op = []int{api.InsExit, api.InsJump, api.InsJump}[r.Intn(3)]
		}
		switch x.Op {
		case api.InsAdd, api.InsSub, api.InsJoin:
			x.B = r.Intn(4)
		case api.InsSet:
			x.N = int32(r.Intn(8) - 1)
		case api.InsJump, api.InsJnz:
			x.N = int32(r.Intn(n))
		case api.InsSpawn, api.InsLock, api.InsUnlock:
			x.N = int32(r.Intn(3))
		case api.InsMask:
			x.N = int32(r.Intn(5))
		}
		if x.Op == api.InsJump || x.Op == api.InsYield {
			x.A = 0
		}
		p.Code = append(p.Code, x)
	}
	if e, at := prog.Check(p); e != api.OK {
		panic(at)
	}
	return p
}

// anyCase is a case with a few entries: that of which a machine is made, and the case's text.
func anyCase(r *rand.Rand) (api.Topo, api.Config, string) {
	x := anyTree(r)
	c := api.Config{Room: 1 + r.Intn(12), Locks: r.Intn(4)}
	all := cpuset.List(x.Domains[0].Cpus)
	for range r.Intn(5) {
		s := cpuset.Of(all[r.Intn(len(all))])
		for range r.Intn(len(all)) {
			s = cpuset.Put(s, all[r.Intn(len(all))])
		}
		c.Masks = append(c.Masks, s)
	}
	for range 1 + r.Intn(4) {
		c.Progs = append(c.Progs, anyProg(r))
	}
	var l []api.Entry
	for range r.Intn(6) {
		l = append(l, api.Entry{Kind: api.EnNew, A: r.Intn(len(c.Progs)), B: -1, C: -1})
	}
	return x, c, script.PrintCase(x, c, l)
}

// anyEntry is one for a machine of that case, the numbers of which mostly are something's.
func anyEntry(r *rand.Rand, x api.Topo, c api.Config) api.Entry {
	all := cpuset.List(x.Domains[0].Cpus)
	cpu := func() int { return all[r.Intn(len(all))] }
	if r.Intn(3) > 0 {
		return api.Entry{Kind: api.EnStep, A: cpu(), Draw: uint(r.Intn(9))}
	}
	e := api.Entry{Kind: 2 + r.Intn(14), A: r.Intn(4)}
	switch e.Kind {
	case api.EnNew:
		e.A, e.B, e.C = r.Intn(len(c.Progs)+1), r.Intn(len(c.Masks)+1)-1, r.Intn(5)-1
	case api.EnMask:
		e.B = r.Intn(len(c.Masks)+1) - 1
	case api.EnPin:
		e.B = cpu()
	case api.EnOnline, api.EnOffline:
		e.A = cpu()
	case api.EnBubble:
		e.A, e.B = -1+r.Intn(2)*r.Intn(3), r.Intn(len(c.Masks)+1)-1
	case api.EnPut:
		e.B = r.Intn(3)
	case api.EnPlace:
		e.B = r.Intn(len(x.Domains))
	}
	return e
}

// plains are what is asked without a number, numbered what is with one.
var (
	plains   = []string{"online", "loads", "time", "tasks", "running", "waits", "judge", "text", "domains"}
	numbered = []string{"task", "queue", "lock", "bubble", "leaf", "encode"}
)

// anyQuestion is what may be asked.
func anyQuestion(r *rand.Rand) string {
	if r.Intn(2) == 0 {
		return plains[r.Intn(len(plains))]
	}
	return numbered[r.Intn(len(numbered))] + " " + strconv.Itoa(r.Intn(2+r.Intn(40))-1)
}

// spoiled is a line with a byte changed, gone, or one more.
func spoiled(r *rand.Rand, line string) string {
	i := r.Intn(len(line) + 1)
	extra := string(" -019x\n\tcasetask"[r.Intn(16)])
	switch {
	case i == len(line) || r.Intn(3) == 0:
		return line[:i] + extra + line[i:]
	case r.Intn(2) == 0:
		return line[:i] + line[i+1:]
	}
	return line[:i] + extra + line[i+1:]
}

// anyLine is a line of any kind for a shell with that case.
func anyLine(r *rand.Rand, x api.Topo, c api.Config) string {
	switch n := r.Intn(100); {
	case n < 60:
		return script.Print(anyEntry(r, x, c))
	case n < 90:
		return anyQuestion(r)
	case n < 94:
		return "undo"
	case n < 97:
		return spoiled(r, script.Print(anyEntry(r, x, c)))
	}
	return spoiled(r, anyQuestion(r))
}

func TestRandomTalks(t *testing.T) { // P25.1: against the second reading
	words := map[string]int{}
	whats := 0
	for seed := range int64(200) {
		r := rand.New(rand.NewSource(seed))
		s, second := shell.New(), &reading{}
		x, c, text := anyCase(r)
		for i := range 120 {
			line := anyLine(r, x, c)
			if i == 3 || r.Intn(60) == 0 {
				line = "case " + text
				if r.Intn(2) == 0 {
					line = spoiled(r, line)
				}
			}
			got, want := s.Say(line), second.say(line)
			if got != want {
				t.Fatalf("seed %d: %q: %q, not %q", seed, line, got, want)
			}
			if got == "what?" {
				whats++
			} else if got != "none" {
				words[strings.Fields(line)[0]]++
			}
			if second.is && r.Intn(20) == 0 {
				x, c = second.x, second.c
			}
		}
	}
	for _, word := range slices.Concat(plains, numbered, []string{"case", "undo"}) {
		if words[word] < 20 {
			t.Error("hardly answered:", word, words[word])
		}
	}
	for kind := range api.EnBalance {
		if word := script.Name(kind + 1); words[word] < 50 {
			t.Error("hardly done:", word, words[word])
		}
	}
	if whats < 50 {
		t.Error("hardly wrong:", whats)
	}
}

// view is all that a machine answers.
type view struct {
	Flat    api.Flat
	Tasks   []api.Task
	Masks   []api.Set
	Queues  [][]api.Ready
	Running [][2]int
	Loads   []int
	Waiting [][]int
	Bubbles []api.Bubble
}

func look(m *sched.Machine, x api.Topo) view {
	v := view{Flat: m.Flat(), Loads: m.Loads()}
	for id := range m.Tasks() {
		task, _ := m.Task(id)
		v.Tasks, v.Masks = append(v.Tasks, task), append(v.Masks, m.Mask(id))
	}
	for d := range x.Domains {
		v.Queues = append(v.Queues, m.Queue(d))
	}
	for _, cpu := range cpuset.List(x.Domains[0].Cpus) {
		if id, ok := m.Running(cpu); ok {
			v.Running = append(v.Running, [2]int{cpu, id})
		}
	}
	for n := range v.Flat.Owners {
		_, waiting, _ := m.Lock(n)
		v.Waiting = append(v.Waiting, waiting)
	}
	for b := range api.MaxBubbles {
		if bubble, ok := m.Bubble(b); ok {
			v.Bubbles = append(v.Bubbles, bubble)
		}
	}
	return v
}

// begun is a shell with a random case, and some entries done.
func begun(r *rand.Rand) (*shell.Shell, api.Topo, api.Config) {
	s := shell.New()
	x, c, text := anyCase(r)
	s.Say("case " + text)
	for range r.Intn(150) {
		s.Say(script.Print(anyEntry(r, x, c)))
	}
	return s, x, c
}

// on is what is answered and how the machine is, entry by entry, if a shell goes on with some of them.
func on(r *rand.Rand, s *shell.Shell, x api.Topo, c api.Config) ([]string, view) {
	var l []string
	for range 30 {
		l = append(l, s.Say(script.Print(anyEntry(r, x, c))))
	}
	return l, look(s.Machine(), x)
}

func TestMachineOfText(t *testing.T) { // P25.3: also behind undo, and it goes on alike
	for seed := range int64(200) {
		r := rand.New(rand.NewSource(seed))
		s, x, c := begun(r)
		for range r.Intn(4) {
			s.Say("undo")
		}
		other := shell.New()
		if got := other.Say("case " + s.Say("text") + "\n"); got != "ok "+s.Say("tasks") {
			t.Fatal(got)
		}
		tree, config, entries := s.Case()
		if got, want := script.PrintCase(tree, config, entries), s.Say("text")+"\n"; got != want {
			t.Fatal(got, want)
		}
		m, _ := sched.New(tree, config)
		for _, e := range entries {
			m.Do(e)
		}
		if a, b, c := look(s.Machine(), x), look(other.Machine(), x), look(m, x); !reflect.DeepEqual(a, b) || !reflect.DeepEqual(a, c) {
			t.Fatal(seed, a, b, c)
		}
		l1, v1 := on(rand.New(rand.NewSource(seed)), s, x, c)
		l2, v2 := on(rand.New(rand.NewSource(seed)), other, x, c)
		if !slices.Equal(l1, l2) || !reflect.DeepEqual(v1, v2) {
			t.Fatal(seed, l1, l2)
		}
	}
}

func TestAskedChangesNothing(t *testing.T) { // P25.4: what is asked, and what isn't understood
	for seed := range int64(200) {
		s, x, c := begun(rand.New(rand.NewSource(seed)))
		silent, _, _ := begun(rand.New(rand.NewSource(seed)))
		r := rand.New(rand.NewSource(seed))
		m, before, text := s.Machine(), look(s.Machine(), x), s.Say("text")
		for range 40 {
			line := anyQuestion(r)
			if _, is := script.Parse(line); is {
				t.Fatal(line)
			}
			if first, again := s.Say(line), s.Say(line); first != again {
				t.Fatal(seed, line, first, again)
			}
			s.Say("case " + spoiled(r, "machine"))
			s.Say("what " + line)
			s.Case()
		}
		if s.Machine() != m || !reflect.DeepEqual(look(m, x), before) || s.Say("text") != text || len(m.Events()) > 0 {
			t.Fatal(seed, text)
		}
		l1, v1 := on(rand.New(rand.NewSource(seed)), s, x, c)
		l2, v2 := on(rand.New(rand.NewSource(seed)), silent, x, c)
		if !slices.Equal(l1, l2) || !reflect.DeepEqual(v1, v2) || s.Say("text") != silent.Say("text") || s.Say("judge") != silent.Say("judge") {
			t.Fatal(seed, l1, l2)
		}
	}
}

func TestUndoBehindAnEntry(t *testing.T) { // P25.5: as it was, and it goes on as it would have
	for seed := range int64(200) {
		s, x, c := begun(rand.New(rand.NewSource(seed)))
		still, _, _ := begun(rand.New(rand.NewSource(seed)))
		r := rand.New(rand.NewSource(-seed))
		before, text := look(s.Machine(), x), s.Say("text")
		n := 1 + r.Intn(5)
		for range n {
			s.Say(script.Print(anyEntry(r, x, c)))
		}
		for range n {
			if got := s.Say("undo"); got != "ok" {
				t.Fatal(got)
			}
		}
		if !reflect.DeepEqual(look(s.Machine(), x), before) || s.Say("text") != text || len(s.Machine().Events()) > 0 {
			t.Fatal(seed)
		}
		l1, v1 := on(rand.New(rand.NewSource(seed)), s, x, c)
		l2, v2 := on(rand.New(rand.NewSource(seed)), still, x, c)
		if !slices.Equal(l1, l2) || !reflect.DeepEqual(v1, v2) || s.Say("judge") != still.Say("judge") {
			t.Fatal(seed, l1, l2)
		}
	}
}

func TestGreatestCase(t *testing.T) { // P25.1, at the limits: 1024 workers, 256 tasks, 16 locks, masks and programs
	leaves := ""
	for i := range 16 {
		leaves += fmt.Sprintf(" domain l%d cpus %d-%d ;", i, i*64, i*64+63)
	}
	p := "prog 3\n" + strings.Repeat("\tlock r0 15\n", 63) + "\tjump 0\n"
	text := "machine domain m {" + leaves + " }\nroom 256\nlocks 16\n" + strings.Repeat("set 0-1023\n", 16) + strings.Repeat(p, 16) + "go\n" + strings.Repeat("new 15 15 -1\n", 256)
	s, second := shell.New(), &reading{}
	for _, line := range []string{"case " + text, "new 15 15 -1", "new 15 15 -1", "step 1023 18446744073709551615", "step 0 1", "step 1023 0", "step 0 0", "task 255", "task 256", "lock 15", "lock 16", "leaf 1023", "leaf 1024", "encode 15", "encode 16", "queue 16", "queue 17", "running", "waits", "online", "loads", "domains", "text", "undo", "judge"} {
		if got, want := s.Say(line), second.say(line); got != want {
			t.Errorf("%.99s: %q, not %q", line, got, want)
		}
	}
}

// FuzzSay looks for rows of lines (with a ; between two) that the shell and the second reading answer differently.
func FuzzSay(f *testing.F) {
	f.Add("step 0 0;running;undo;text;judge;task 0;queue 0;bubble -1 -1;lock 0;time 5;online x")
	f.Add("case;case x;case machine domain m cpus 0 \x00;offline 1;new 0 0 0;waits;loads;domains;encode 0;leaf 1")
	f.Fuzz(func(t *testing.T, text string) {
		s, second := shell.New(), &reading{}
		for _, line := range append([]string{"time", "case " + office}, strings.Split(text, ";")...) {
			if got, want := s.Say(line), second.say(line); got != want {
				t.Fatalf("%q: %q, not %q", line, got, want)
			}
		}
	})
}
