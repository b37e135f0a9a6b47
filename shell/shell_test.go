package shell_test

import (
	"slices"
	"strings"
	"testing"

	"pinfold/api"
	"pinfold/cpuset"
	"pinfold/script"
	"pinfold/shell"
	"pinfold/topo"
)

// least is a case of a worker, a program and no entries; four is layer 22's example.
const (
	least = "machine domain m cpus 0 ;\nroom 4\nlocks 0\nprog 0\n\tout r0\n\texit r0\ngo\n"
	four  = least + "new 0 -1 -1\nstep 0 0\nstep 0 0\nstep 0 0\n"
)

// office is a case with some of all.
const office = `machine domain m { domain a queue 2 cpus 0-1 ; domain b cpus 2 ; }
room 6
locks 2
set 0-1
set 2
prog 0
	lock r0 1
	yield
	unlock r0 1
	exit r0
prog 2
	set r1 -5
	out r1
	jump 0
go
new 0 -1 -1
`

// said is a line, and what is answered.
type said struct{ line, answer string }

// talk says lines, and holds what is answered against what is wanted.
func talk(t *testing.T, s *shell.Shell, l ...said) {
	t.Helper()
	for i, x := range l {
		if got := s.Say(x.line); got != x.answer {
			t.Fatalf("line %d, %q: %q, not %q", i, x.line, got, x.answer)
		}
	}
}

func TestExample(t *testing.T) { // P25.1
	talk(t, shell.New(), said{"case " + four, "ok 1"}, said{"running", ""}, said{"undo", "ok"}, said{"running", "0:0"})
}

func TestWithoutMachine(t *testing.T) { // P25.1, P25.2
	s := shell.New()
	for _, line := range []string{"", " ", "time", "tasks", "undo", "text", "tick", "step 0 0", "task 0", "what?", "cases " + least, "Case " + least, " case " + least, "case\n" + least, "case\t" + least, "none", "\x00", strings.Repeat("x", 100000)} {
		talk(t, s, said{line, "none"})
	}
	talk(t, s, said{"case", "line 1"}, said{"case ", "line 1"}, said{"case " + least[:len(least)-1], "line 7"}, said{"case  " + least, "line 1"}, said{"time", "none"})
	if x, c, l := s.Case(); s.Machine() != nil || !topo.Same(x, api.Topo{}) || !script.Same(c, api.Config{}) || l != nil {
		t.Error(s.Machine(), x, c, l)
	}
	talk(t, s, said{"case " + least, "ok 0"}, said{"time", "0"})
}

func TestTalk(t *testing.T) { // P25.1: of each line, by hand
	s := shell.New()
	talk(t, s,
		said{"case " + office, "ok 1"},
		said{"tasks", "1"}, said{"task 0", "0 0 0 -1 -1 1 0 0 0 0 0 0 0-2"}, said{"queue 0", "0:0:1"}, said{"queue 1", ""},
		said{"new 1 0 -1", "new 1 -1 1 -1\nready 1 -1 0 0"},
		said{"new 0 -1 3", "new 2 -1 0 -1\nready 2 -1 0 0"},
		said{"new 0 1 0", "new 3 -1 0 -1\nready 3 -1 0 0"},
		said{"queue 0", "2:3:3 1:2:2 0:0:1 3:0:4"}, said{"waits", "4"}, said{"running", ""},
		said{"step 2 0", "dispatch 2 2 0 0"},
		said{"step 2 0", "ins 2 2 9 0\nown 2 -1 1 2\nreg 2 -1 0 0"},
		said{"step 0 7", "dispatch 1 0 0 0"},
		said{"step 0 7", "ins 1 0 1 0"},
		said{"step 1 0", "dispatch 0 1 0 0"},
		said{"running", "0:1 1:0 2:2"}, said{"waits", "1"},
		said{"lock 1", "2"}, said{"lock 0", "-1"}, said{"lock 2", "what?"}, said{"lock -1", "what?"},
		said{"step 1 0", "ins 0 1 9 0\nstop 0 1 3 0\nwait 0 1 4 1"},
		said{"lock 1", "2 0"}, said{"task 0", "0 1 0 -1 -1 4 1 1 0 0 0 0 0-2"},
		said{"task 1", "1 1 2 -1 -1 2 0 1 0 -5 0 0 0-1"}, said{"task 2", "0 1 3 -1 -1 2 2 2 0 0 0 0 0-2"}, said{"task 3", "0 0 0 -1 -1 1 0 0 0 0 0 0 2"}, said{"task 4", "what?"},
		said{"bubble 0", "what?"}, said{"bubble -1 0", "bubble -1 -1 0 1"}, said{"bubble 0", "-1 1 0"},
		said{"bubble 0 -1", "bubble -1 -1 1 1"}, said{"bubble 1", "0 1 0"}, said{"bubble 2", "what?"},
		said{"put 1 0", "mask 1 -1 3 0\nstop 1 0 6 0\nhold 1 -1 0 0"}, said{"task 1", "1 1 2 -1 0 6 0 1 0 -5 0 0 0-1"},
		said{"mask 1 1", "mask 1 -1 1 0"}, said{"task 1", "1 1 2 -1 0 6 0 1 0 -5 0 0 "}, // no workers left
		said{"undo", "ok"},
		said{"seal 0", "bubble -1 -1 0 2"}, said{"place 0 1", "bubble -1 -1 0 3"}, said{"bubble 0", "-1 3 1"},
		said{"burst 0", "bubble -1 -1 0 4\nready 1 -1 1 0"}, said{"bubble 0", "-1 4 1"},
		said{"offline 2", "stop 2 2 4 0\noffline -1 2 0 0\npark 3 -1 0 0\nready 2 -1 0 0"},
		said{"online", "0-1"}, said{"leaf 2", "2:b"}, said{"leaf 1", "1:a"}, said{"leaf 0", "1:a"}, said{"leaf 3", "what?"}, said{"leaf -1", "what?"},
		said{"online 2", "online -1 2 0 0\nready 3 -1 2 0"}, said{"online", "0-2"},
		said{"loads", "0 0 0"}, said{"time", "0"}, said{"tick", "tick -1 -1 1 0"}, said{"loads", "192 64 64"}, said{"time", "1"},
		said{"judge", "0 -1"}, said{"domains", "m a b"},
		said{"encode 0", "prog 0\n\tlock r0 1\n\tyield\n\tunlock r0 1\n\texit r0"}, said{"encode 1", "prog 2\n\tset r1 -5\n\tout r1\n\tjump 0"}, said{"encode 2", "what?"}, said{"encode -1", "what?"},
		said{"balance 0", ""}, said{"pin 1 2", "fail -1 -1 6 0"}, said{"pin 1 1", "mask 1 -1 2 0"}, said{"task 1", "1 1 2 1 0 1 1 1 0 -5 0 0 1"}, said{"unpin 1", "mask 1 -1 2 0"},
		said{"mask 3 0", "mask 3 -1 1 0\nready 3 -1 0 0"}, said{"task 3", "0 0 0 -1 -1 1 0 0 0 0 0 0 0-1"}, said{"regen 0", "bubble -1 -1 0 3\nhold 1 -1 0 0"},
		said{"step 9 0", "fail -1 -1 1 0"}, said{"undo", "ok"}, said{"undo", "ok"}, said{"bubble 0", "-1 4 1"},
		said{"text", office + "new 1 0 -1\nnew 0 -1 3\nnew 0 1 0\nstep 2 0\nstep 2 0\nstep 0 7\nstep 0 7\nstep 1 0\nstep 1 0\nbubble -1 0\nbubble 0 -1\nput 1 0\nseal 0\nplace 0 1\nburst 0\noffline 2\nonline 2\ntick\nbalance 0\npin 1 2\npin 1 1\nunpin 1\nmask 3 0"},
	)
}

func TestWhat(t *testing.T) { // P25.1: what isn't understood
	s := shell.New()
	talk(t, s, said{"case " + office, "ok 1"})
	before := s.Say("text")
	for _, line := range []string{
		"", " ", "  ", "what?", "none", "Time", "time\n", "time\t", "timed", " time", "tick 0", "tick ", " tick", "step", "step 0", "step 0 -1", "step 0 0 0", "step 0  0", "step 00 0", "step 0 0\n", "step +0 0", "new 0 -1", "new 0 -1 -1 0", "new a -1 -1",
		"offline", "offline ", "offline x", "pin 0", "unpin", "mask 0", "put 0", "place 0", "seal", "burst", "regen", "balance", "offline 99999999999999999999",
		"task", "task ", "task x", "task 00", "task 01", "task +0", "task -0", "task 0 ", "task  0", "task 0 0", "task 0x0", "task 1", "task -1", "task 99999999999999999999", "task 0\n", "task\t0", "task 0_0", "Task 0", "task 0.0",
		"queue", "queue 3", "queue -1", "queue b", "queue 0 1", "queue 00", "queue 9223372036854775808",
		"lock", "lock 2", "lock -1", "lock x", "lock 01", "lock 0 0", "bubble", "bubble 0", "bubble x", "bubble -1", "bubble -1 x", "bubble -1 -1 -1",
		"leaf", "leaf 3", "leaf -1", "leaf 1024", "leaf a", "leaf 01", "encode", "encode 2", "encode -1", "encode x", "encode 00", "encode 0 1",
		"prog 0", "machine", "room 4", "go", "dispatch 0 0 0 0", "Case " + least, "\xff", "\x00",
	} {
		talk(t, s, said{line, "what?"})
	}
	if after := s.Say("text"); after != before {
		t.Error(after)
	}
}

func TestRest(t *testing.T) { // P25.1: the first word says what is asked; what needs no rest has none that matters
	s := shell.New()
	talk(t, s, said{"case " + four, "ok 1"}, said{"step 0 0", "idle -1 0 0 0"},
		said{"time 5", "0"}, said{"time ", "0"}, said{"online x", "0"}, said{"tasks  1", "1"}, said{"loads 0", "0"}, said{"waits 9 9", "0"}, said{"judge x", "0 -1"}, said{"domains m", "m"}, said{"running 0", ""}, said{"text x", four + "step 0 0"}, said{"undo 7", "ok"}, said{"text", four[:len(four)-1]})
}

func TestWrongCase(t *testing.T) { // P25.1: a case with a wrong line changes nothing
	s := shell.New()
	talk(t, s, said{"case " + four, "ok 1"}, said{"undo", "ok"}, said{"tick", "tick -1 -1 1 0"})
	m := s.Machine()
	talk(t, s,
		said{"case", "line 1"}, said{"case ", "line 1"}, said{"case x", "line 1"}, said{"case  " + least, "line 1"}, said{"case machine domain m cpus 0 ;\nroom 0\n", "line 2"}, said{"case " + least + "tick 0\n", "line 8"}, said{"case " + four + "tick", "line 12"}, said{"case " + strings.Replace(four, "out", "outs", 1), "line 5"},
		said{"running", "0:0"}, said{"time", "1"}, said{"text", strings.TrimSuffix(four, "step 0 0\n") + "tick"}, said{"undo", "ok"}, said{"time", "0"},
	)
	talk(t, s, said{"tick", "tick -1 -1 1 0"}, said{"case machine", "line 1"})
	if s.Machine() == m {
		t.Error("undo makes no new machine")
	}
	m = s.Machine()
	talk(t, s, said{"case x", "line 1"}, said{"tick", "tick -1 -1 2 0"})
	if s.Machine() != m {
		t.Error("another machine")
	}
	talk(t, s, said{"case " + least, "ok 0"}, said{"time", "0"}, said{"text", least[:len(least)-1]}, said{"undo", "none"})
	if s.Machine() == m {
		t.Error("the same machine")
	}
}

func TestUndo(t *testing.T) { // P25.1: up to the beginning, refused entries too
	s := shell.New()
	talk(t, s, said{"case " + four, "ok 1"}, said{"step 7 0", "fail -1 -1 1 0"}, said{"text", four + "step 7 0"}, said{"judge", "0 -1"},
		said{"undo", "ok"}, said{"text", four[:len(four)-1]}, said{"task 0", "0 1 0 -1 -1 8 0 0 0 0 0 0 0"},
		said{"undo", "ok"}, said{"task 0", "0 1 0 -1 -1 2 0 0 0 0 0 0 0"}, said{"undo", "ok"}, said{"task 0", "0 0 0 -1 -1 2 0 0 0 0 0 0 0"}, said{"undo", "ok"}, said{"queue 0", "0:0:1"}, said{"undo", "ok"}, said{"tasks", "0"},
		said{"undo", "none"}, said{"undo", "none"}, said{"text", least[:len(least)-1]}, said{"new 0 -1 -1", "new 0 -1 0 -1\nready 0 -1 0 0"}, said{"queue 0", "0:0:1"}, said{"undo", "ok"}, said{"undo", "none"})
}

func TestRefusedInCase(t *testing.T) { // P25.1: a case's entries are done, whatever they are answered
	talk(t, shell.New(), said{"case " + least + "step 5 0\nnew 3 0 0\nnew 0 -1 -1\nunpin 0\n", "ok 1"}, said{"judge", "0 -1"}, said{"undo", "ok"}, said{"text", least + "step 5 0\nnew 3 0 0\nnew 0 -1 -1"})
}

func TestNil(t *testing.T) { // P25.2
	var s *shell.Shell
	for _, line := range []string{"", "time", "case " + least, "tick"} {
		talk(t, s, said{line, ""})
	}
	if x, c, l := s.Case(); s.Machine() != nil || x.Domains != nil || !script.Same(c, api.Config{}) || l != nil {
		t.Error(s.Machine(), x, c, l)
	}
}

func TestCase(t *testing.T) { // P25.2
	s := shell.New()
	talk(t, s, said{"case " + office, "ok 1"}, said{"tick", "tick -1 -1 1 0"}, said{"step 0 0", "dispatch 0 0 0 0"}, said{"seal 0", "fail -1 -1 3 0"}, said{"undo", "ok"}, said{"pin 0 8", "fail -1 -1 1 0"})
	x, c, l := s.Case()
	x0, c0, _, _ := script.ParseCase(office)
	if !topo.Same(x, x0) || !script.Same(c, c0) || !slices.Equal(l, []api.Entry{{Kind: api.EnNew, B: -1, C: -1}, {Kind: api.EnTick}, {Kind: api.EnStep}, {Kind: api.EnPin, B: 8}}) {
		t.Error(x, c, l)
	}
	before := s.Say("text")
	x.Domains[1] = api.Domain{}
	c.Masks[0], c.Progs[0].Prio, c.Progs[1].Code[0] = cpuset.Of(7), 3, api.Ins{}
	clear(l)
	_ = append(l[:1], l...)
	talk(t, s, said{"text", before}, said{"encode 0", "prog 0\n\tlock r0 1\n\tyield\n\tunlock r0 1\n\texit r0"}, said{"leaf 0", "1:a"})
	_, _, kept := s.Case()
	talk(t, s, said{"tick", "tick -1 -1 2 0"}, said{"undo", "ok"}, said{"undo", "ok"}, said{"tick", "tick -1 -1 2 0"})
	if !slices.Equal(kept[3:], []api.Entry{{Kind: api.EnPin, B: 8}}) {
		t.Error("an answer is changed by what comes behind it:", kept)
	}
}

func TestMachine(t *testing.T) { // P25.2: what is done with the machine itself is no entry of the case, and none's answer
	s := shell.New()
	talk(t, s, said{"case " + least, "ok 0"})
	m := s.Machine()
	if e := m.Do(api.Entry{Kind: api.EnNew, B: -1, C: -1}); e != api.OK {
		t.Fatal(e)
	}
	talk(t, s, said{"judge", "0 -1"}, said{"tasks", "1"}, said{"step 0 0", "dispatch 0 0 0 0"})
	m.Do(api.Entry{Kind: api.EnTick})
	talk(t, s, said{"step 0 0", "ins 0 0 13 0\nout 0 0 0 0"}, said{"judge", "0 -1"}, said{"text", least + "step 0 0\nstep 0 0"}, said{"undo", "ok"}, said{"tasks", "0"}, said{"judge", "0 -1"})
	m = s.Machine()
	if m.Events() != nil {
		t.Error("events that aren't heard")
	}
	m.Do(api.Entry{Kind: api.EnNew, B: -1, C: -1})
	m.Events() // which the shell never hears of
	talk(t, s, said{"tick", "tick -1 -1 1 0"}, said{"judge", "0 -1"}, said{"step 0 0", "dispatch 0 0 0 0"}, said{"judge", "1 2"}, said{"undo", "ok"}, said{"judge", "0 -1"})
	m = s.Machine()
	m.Do(api.Entry{Kind: api.EnNew, B: -1, C: -1})
	m.Events()
	m.Do(api.Entry{Kind: api.EnStep})
	talk(t, s, said{"judge", "1 2"})
}

func TestTwoShells(t *testing.T) { // each has a machine of its own
	a, b := shell.New(), shell.New()
	talk(t, a, said{"case " + four, "ok 1"})
	talk(t, b, said{"time", "none"}, said{"case " + least, "ok 0"}, said{"tick", "tick -1 -1 1 0"})
	talk(t, a, said{"time", "0"}, said{"undo", "ok"})
	talk(t, b, said{"time", "1"}, said{"text", least + "tick"})
}
