package runs_test

import (
	"fmt"
	"math"
	"math/rand"
	"reflect"
	"slices"
	"strings"
	"testing"

	"pinfold/api"
	"pinfold/cpuset"
	"pinfold/event"
	"pinfold/flat"
	"pinfold/prog"
	"pinfold/runs"
	"pinfold/sched"
	"pinfold/script"
	"pinfold/topo"
)

// text is the case of the chapter's example.
const text = "machine domain m cpus 0 ;\nroom 4\nlocks 0\nprog 0\n\tout r0\n\texit r0\ngo\nnew 0 -1 -1\nstep 0 0\nstep 0 0\nstep 0 0\n"

// shown is what is shown of it.
const shown = `new 0 -1 0 -1
ready 0 -1 0 0
dispatch 0 0 0 0
ins 0 0 13 0
out 0 0 0 0
ins 0 0 14 1
stop 0 0 7 0
exit 0 -1 0 0
end 4 0 1`

// little is the config of the example, and its entries.
func little() (api.Config, []api.Entry) {
	c := api.Config{Room: 4, Progs: []api.Prog{{Code: []api.Ins{{Op: api.InsOut}, {Op: api.InsExit}}}}}
	return c, []api.Entry{{Kind: api.EnNew, B: -1, C: -1}, {Kind: api.EnStep}, {Kind: api.EnStep}, {Kind: api.EnStep}}
}

// zero tells whether all of r is so.
func zero(r api.Report) bool { return reflect.DeepEqual(r, api.Report{}) }

func TestExample(t *testing.T) { // P22.1 to P22.3
	r := runs.Text(text)
	if s := runs.Show(r); s != shown {
		t.Error(s)
	}
	want := api.Report{
		Answers: []api.Errno{0, 0, 0, 0},
		Events: []api.Event{
			{Kind: api.EvNew, Cpu: -1, B: -1}, {Kind: api.EvReady, Cpu: -1}, {Kind: api.EvDispatch}, {Kind: api.EvIns, A: api.InsOut}, {Kind: api.EvOut},
			{Kind: api.EvIns, A: api.InsExit, B: 1}, {Kind: api.EvStop, A: api.WhyExit}, {Kind: api.EvExit, Cpu: -1},
		},
		Flat: api.Flat{Tasks: []api.FlatTask{{Pc: 1, State: api.Exited}}, Online: cpuset.Of(0)},
	}
	if !runs.Same(r, want) {
		t.Error(r)
	}
	c, l := little()
	for _, d := range []string{"domain m cpus 0 ;", " domain\nm cpus 0; # a note"} {
		if r := runs.Run(d, c, l); !runs.Same(r, want) {
			t.Error(r)
		}
	}
}

func TestRefusedDescriptions(t *testing.T) { // P22.1, P22.3, P22.4
	c, l := little()
	for _, x := range []struct {
		d    string
		want api.Report
		show string
	}{
		{"domain m { }", api.Report{Err: api.ErrToken, Place: api.Place{Off: 11, Line: 1, Col: 12}}, "error 21 1:12"},
		{"", api.Report{Err: api.ErrEnd, Place: api.Place{Off: 0, Line: 1, Col: 1}}, "error 22 1:1"},
		{"domain m\n cpus 0;\n?", api.Report{Err: api.ErrByte, Place: api.Place{Off: 18, Line: 3, Col: 1}}, "error 20 3:1"},
		{"domain m { domain m cpus 0; }", api.Report{Err: api.ErrName, Place: api.Place{Off: 18, Line: 1, Col: 19}}, "error 24 1:19"},
		{"domain m\n\n\tcpus 1024;", api.Report{Err: api.ErrCpu, Place: api.Place{Off: 16, Line: 3, Col: 7}}, "error 25 3:7"},
		{strings.Repeat(" ", api.MaxText+1), api.Report{Err: api.ErrBig, Place: api.Place{Off: 0, Line: 1, Col: 1}}, "error 2 1:1"},
	} {
		for _, c := range []api.Config{c, {}} { // the description's error goes ahead of the config's
			r := runs.Run(x.d, c, l)
			if !reflect.DeepEqual(r, x.want) {
				t.Errorf("Run(%.40q): %v", x.d, r)
			}
			if s := runs.Show(r); s != x.show {
				t.Errorf("%.40q: %s", x.d, s)
			}
		}
		if _, e, at := topo.Parse(x.d); e != x.want.Err || at != x.want.Place {
			t.Error(e, at)
		}
	}
}

// tight is a description of no more than MaxText bytes, of a tree whose own description is longer.
func tight() string {
	d := "domain m{"
	for n := 0; len(d) < api.MaxText-100; n++ {
		d += fmt.Sprintf("domain a%d_%s queue 77{domain b%d cpus %d;}", n, strings.Repeat("x", 26), n, n)
	}
	return d + "}"
}

func TestRefusedConfigs(t *testing.T) { // P22.1, P22.4
	c, l := little()
	refused := func(name, d string, change func(c *api.Config)) {
		t.Helper()
		b := c
		b.Progs = slices.Clone(c.Progs)
		change(&b)
		r := runs.Run(d, b, l)
		if r.Err != api.ErrArg || runs.Show(r) != "error 1" {
			t.Error(name, r)
		}
		r.Err = 0
		if !zero(r) {
			t.Error(name, r)
		}
	}
	const d = "domain m cpus 0;"
	refused("room", d, func(c *api.Config) { c.Room = 0 })
	refused("room", d, func(c *api.Config) { c.Room = api.MaxTasks + 1 })
	refused("locks", d, func(c *api.Config) { c.Locks = -1 })
	refused("locks", d, func(c *api.Config) { c.Locks = api.MaxLocks + 1 })
	refused("programs", d, func(c *api.Config) { c.Progs = slices.Repeat(c.Progs, api.MaxProgs+1) })
	refused("program", d, func(c *api.Config) { c.Progs = append(c.Progs, api.Prog{}) })
	refused("masks", d, func(c *api.Config) { c.Masks = make([]api.Set, api.MaxProgs+1) })
	if len(tight()) > api.MaxText {
		t.Fatal(len(tight()))
	}
	refused("tree", tight(), func(*api.Config) {})
}

func TestRefusedTexts(t *testing.T) { // P22.2 to P22.4
	for s, line := range map[string]int{"": 1, "x": 1, text[:len(text)-1]: 11, text + "\n": 12, strings.Replace(text, "room 4", "room 0", 1): 2, strings.Replace(text, "exit r0", "out r0", 1): 4, strings.Replace(text, "\texit r0\n", "\texit\n", 1): 6, strings.Replace(text, "new 0 -1 -1", "new 0 -1", 1): 8} {
		r := runs.Text(s)
		if show := fmt.Sprintf("error 21 line %d", line); runs.Show(r) != show || r.Line != line {
			t.Errorf("%q: %s, not %s", s, runs.Show(r), show)
		}
		if _, _, _, bad := script.ParseCase(s); bad != line {
			t.Errorf("%q: %d, not %d", s, bad, line)
		}
		r.Err, r.Line = 0, 0
		if !zero(r) {
			t.Error(r)
		}
	}
}

func TestShow(t *testing.T) { // P22.3
	some := []api.Event{{Kind: api.EvTick, Task: -1, Cpu: -1, A: 1}, {Kind: 77, Task: 1, Cpu: 2, A: 3, B: -4}}
	for want, r := range map[string]api.Report{
		"end 0 0 0":                            {},
		"tick -1 -1 1 0\n 1 2 3 -4\nend 3 2 2": {Events: some, Answers: []api.Errno{1, 0, -5}, Flat: api.Flat{Tasks: make([]api.FlatTask, 2), Time: 9}, Line: 4, Place: api.Place{Line: 3}},
		"end 12 1 0":                           {Answers: append(make([]api.Errno, 11), api.ErrSize)},
		"error 21 line 3":                      {Err: api.ErrToken, Line: 3},
		"error 1":                              {Err: api.ErrArg, Answers: []api.Errno{0}, Events: some, Flat: api.Flat{Tasks: make([]api.FlatTask, 1)}},
		"error 20 7:65":                        {Err: api.ErrByte, Place: api.Place{Off: 300, Line: 7, Col: 65}},
		"error 20 7:0":                         {Err: api.ErrByte, Place: api.Place{Line: 7}},
		"error 20 0:7":                         {Err: api.ErrByte, Place: api.Place{Col: 7}},
		"error 20 0:0":                         {Err: api.ErrByte, Place: api.Place{Off: 7}},
		"error 33 1:2 line 5":                  {Err: api.ErrLen, Place: api.Place{Off: 1, Line: 1, Col: 2}, Line: 5},
		"error -7 -1:-2 line -5":               {Err: -7, Place: api.Place{Line: -1, Col: -2}, Line: -5},
		"error 9223372036854775807 line 12345678901234": {Err: math.MaxInt, Line: 12345678901234},
	} {
		if s := runs.Show(r); s != want {
			t.Errorf("%v: %q, not %q", r, s, want)
		}
	}
}

func TestSame(t *testing.T) { // P22.3
	whole := func() api.Report {
		return api.Report{
			Err: 1, Place: api.Place{Off: 1, Line: 2, Col: 3}, Line: 4, Answers: []api.Errno{1, 2}, Events: []api.Event{{Kind: 1, Task: 2, Cpu: 3, A: 4, B: 5}, {}},
			Flat: api.Flat{Tasks: []api.FlatTask{{Prog: 1, Pc: 2, Regs: [4]int32{1, 2, 3, 4}, State: 3, On: 4}}, Online: cpuset.Of(1), Owners: []int{1, -1}, Time: 6},
		}
	}
	if !runs.Same(whole(), whole()) {
		t.Error("not the same")
	}
	seen := 0
	var change func(r *api.Report, v reflect.Value)
	change = func(r *api.Report, v reflect.Value) {
		differ := func(name string) {
			t.Helper()
			if seen++; runs.Same(*r, whole()) || runs.Same(whole(), *r) {
				t.Error("the same with another one:", name, r)
			}
		}
		switch {
		case v.CanInt():
			v.SetInt(v.Int() + 1)
			differ("number")
			v.SetInt(v.Int() - 1)
		case v.CanUint():
			v.SetUint(v.Uint() ^ 1<<63)
			differ("word")
			v.SetUint(v.Uint() ^ 1<<63)
		case v.Kind() == reflect.Struct:
			for i := range v.NumField() {
				change(r, v.Field(i))
			}
		case v.Kind() == reflect.Slice:
			l := v.Interface()
			v.Set(v.Slice(0, v.Len()-1))
			differ("list")
			v.Set(reflect.Zero(v.Type()))
			differ("list")
			v.Set(reflect.Append(reflect.ValueOf(l), reflect.Zero(v.Type().Elem())))
			differ("list")
			v.Set(reflect.ValueOf(l))
			fallthrough
		default:
			for i := range v.Len() {
				change(r, v.Index(i))
			}
		}
	}
	r := whole()
	change(&r, reflect.ValueOf(&r).Elem())
	if !runs.Same(r, whole()) || seen != 1+3+1+2+10+8+16+2+1+4*3 {
		t.Error(seen)
	}
	empty := api.Report{Answers: []api.Errno{}, Events: []api.Event{}, Flat: api.Flat{Tasks: []api.FlatTask{}, Owners: []int{}}}
	if !runs.Same(empty, api.Report{}) || !runs.Same(api.Report{}, empty) {
		t.Error("nil and empty lists")
	}
}

// play is how the run goes, by a second reading: entry by entry, each one's events by themselves.
func play(d string, c api.Config, l []api.Entry) api.Report {
	x, e, at := topo.Parse(d)
	if e != api.OK {
		return api.Report{Err: e, Place: at}
	}
	m, e := sched.New(x, c)
	if e != api.OK {
		return api.Report{Err: e}
	}
	r := api.Report{Flat: m.Flat()}
	for _, e := range l {
		answer := m.Do(e)
		told := m.Events()
		r.Answers = append(r.Answers, answer)
		r.Events = append(r.Events, told...)
		r.Flat, _ = flat.Play(r.Flat, c.Progs, told)
	}
	return r
}

// show is what is shown of a run, by a second reading.
func show(r api.Report) string {
	if r.Err != api.OK {
		s := fmt.Sprintf("error %d", r.Err)
		if r.Place.Off|r.Place.Line|r.Place.Col != 0 {
			s += fmt.Sprintf(" %d:%d", r.Place.Line, r.Place.Col)
		}
		if r.Line != 0 {
			s += fmt.Sprintf(" line %d", r.Line)
		}
		return s
	}
	s, refused := "", 0
	for _, e := range r.Events {
		s += fmt.Sprintf("%s %d %d %d %d\n", event.Name(e.Kind), e.Task, e.Cpu, e.A, e.B)
	}
	for _, e := range r.Answers {
		if e != 0 {
			refused++
		}
	}
	return s + fmt.Sprintf("end %d %d %d", len(r.Answers), refused, len(r.Flat.Tasks))
}

// anyNumber is one, mostly a small one.
func anyNumber(r *rand.Rand) int {
	if r.Intn(60) == 0 {
		return []int{math.MinInt, math.MaxInt, 1 << 40, -2, 1024}[r.Intn(5)]
	}
	return r.Intn(6) - r.Intn(2)
}

// anyProg is a program that may be.
func anyProg(r *rand.Rand) api.Prog {
	for {
		p := api.Prog{Prio: r.Intn(4)}
		for range 1 + r.Intn(9) {
			p.Code = append(p.Code, api.Ins{Op: 1 + r.Intn(14), A: r.Intn(2) * r.Intn(3), B: r.Intn(2) * r.Intn(3), N: int32(r.Intn(4))})
		}
		if e, _ := prog.Check(p); e == api.OK {
			return p
		}
	}
}

// anyRun is a machine, mostly one that may be, and a script of entries of all kinds.
func anyRun(r *rand.Rand) (string, api.Config, []api.Entry) {
	d := []string{"domain m cpus 0;", "domain m { domain a queue 2 cpus 0; domain b queue 1 cpus 1-2; }", "domain m { domain a { domain c queue 1 cpus 0; domain d queue 3 cpus 1; } domain b queue 2 cpus 2,5; }"}[r.Intn(3)]
	if r.Intn(20) == 0 {
		d = d[:r.Intn(len(d))]
	}
	c := api.Config{Room: 1 + r.Intn(12), Locks: r.Intn(4), Masks: []api.Set{cpuset.Of(0), cpuset.Of(1, 2), {}}[:r.Intn(4)]}
	if r.Intn(30) == 0 {
		c.Room = 0
	}
	for range 1 + r.Intn(4) {
		c.Progs = append(c.Progs, anyProg(r))
	}
	var l []api.Entry
	for range r.Intn(120) {
		e := api.Entry{Kind: r.Intn(17), A: anyNumber(r), B: anyNumber(r), C: anyNumber(r), Draw: uint(anyNumber(r))}
		switch r.Intn(8) {
		case 0, 1, 2, 3, 4:
			e.Kind = api.EnStep
		case 5:
			e = api.Entry{Kind: api.EnNew, A: r.Intn(len(c.Progs)), B: -1, C: r.Intn(5) - 1}
		}
		l = append(l, e)
	}
	return d, c, l
}

// part tells whether the report is of a run with which the longer one's began.
func part(short, long api.Report) bool {
	return short.Err == long.Err && short.Place == long.Place && len(short.Answers) <= len(long.Answers) && len(short.Events) <= len(long.Events) &&
		slices.Equal(short.Answers, long.Answers[:len(short.Answers)]) && slices.Equal(short.Events, long.Events[:len(short.Events)])
}

func TestRandomRuns(t *testing.T) { // P22.1, P22.3 to P22.6
	refused, exits := 0, 0
	for seed := range int64(400) {
		r := rand.New(rand.NewSource(seed))
		d, c, l := anyRun(r)
		got := runs.Run(d, c, l)
		if want := play(d, c, l); !runs.Same(got, want) {
			t.Fatalf("seed %d: %v, not %v", seed, got, want)
		}
		if s := runs.Show(got); s != show(got) {
			t.Fatalf("seed %d: %s, not %s", seed, s, show(got))
		}
		exits += len(event.Of(got.Events, api.EvExit))
		if got.Err != api.OK {
			refused++
			if len(got.Events)+len(got.Answers)+len(got.Flat.Tasks) > 0 {
				t.Fatal("refused, and run:", got)
			}
			continue
		}
		x, _, _ := topo.Parse(d)
		if end, bad := flat.Play(flat.New(x.Domains[0].Cpus, c.Locks), c.Progs, got.Events); bad != -1 || !flat.Same(end, got.Flat) {
			t.Fatalf("seed %d: the events come to %v (%d), not to %v", seed, end, bad, got.Flat)
		}
		short := runs.Run(d, c, l[:r.Intn(len(l)+1)])
		if !part(short, got) {
			t.Fatalf("seed %d: a longer script's run begins otherwise", seed)
		}
		if !runs.Same(got, runs.Run(d, c, l)) {
			t.Fatalf("seed %d: another run", seed)
		}
	}
	if refused < 5 || exits < 100 {
		t.Error("hardly refused, or hardly any exits:", refused, exits)
	}
}

func TestRandomTexts(t *testing.T) { // P22.2, P22.4
	for seed := range int64(150) {
		r := rand.New(rand.NewSource(seed))
		d, c, l := anyRun(r)
		known := slices.DeleteFunc(l, func(e api.Entry) bool { return script.Name(e.Kind) == "" })
		for i, e := range known { // without what it hasn't
			known[i], _ = script.Parse(script.Print(e))
		}
		x, e, _ := topo.Parse(d)
		s := script.PrintCase(x, c, known)
		got := runs.Text(s)
		if may := e == api.OK && c.Room > 0; may && !runs.Same(got, runs.Run(d, c, known)) || !may && got.Err != api.ErrToken {
			t.Fatalf("seed %d: %q: %v", seed, s, got)
		}
		for range 10 {
			b := []byte(s)
			b[r.Intn(len(b))] = byte(r.Intn(256))
			checkBytes(t, string(b))
			checkBytes(t, s[r.Intn(len(s)):])
		}
	}
}

// checkBytes lets any bytes be a case and a description: they are run, or refused with an error and no event.
func checkBytes(t *testing.T, s string) {
	t.Helper()
	c, l := little()
	for _, r := range []api.Report{runs.Text(s), runs.Run(s, c, l)} {
		if r.Err != api.OK && !reflect.DeepEqual(r, api.Report{Err: r.Err, Place: r.Place, Line: r.Line}) {
			t.Fatalf("%q: refused, and run: %v", s, r)
		}
		if r.Err == api.OK && (r.Line != 0 || r.Place != api.Place{}) {
			t.Fatalf("%q: run, and a place: %v", s, r)
		}
		if runs.Show(r) != show(r) {
			t.Fatalf("%q: %s", s, runs.Show(r))
		}
	}
	if x, c, l, bad := script.ParseCase(s); bad == 0 && !runs.Same(runs.Text(s), runs.Run(topo.Print(x), c, l)) {
		t.Fatalf("%q", s)
	}
}

func TestAnyBytes(t *testing.T) { // P22.4
	for i := range len(text) {
		checkBytes(t, text[:i])
		checkBytes(t, text[i:])
		for _, c := range []byte("\n\t 019-{};#x\x00\xff") {
			checkBytes(t, text[:i]+string([]byte{c})+text[i+1:])
		}
	}
	r := rand.New(rand.NewSource(9))
	for range 2000 {
		b := make([]byte, r.Intn(40))
		r.Read(b)
		checkBytes(t, string(b))
	}
}

func TestAnyEntries(t *testing.T) { // P22.4
	c, _ := little()
	var l []api.Entry
	edges := []int{math.MinInt, -1, 0, 1, 1023, 1024, math.MaxInt}
	for kind := -1; kind <= 17; kind++ {
		for _, a := range edges {
			for _, b := range edges {
				l = append(l, api.Entry{Kind: kind, A: a, B: b, C: -1, Draw: math.MaxUint}, api.Entry{Kind: kind, A: a, B: b, C: a})
			}
		}
	}
	r := runs.Run("domain m cpus 0;", c, l)
	if r.Err != api.OK || len(r.Answers) != len(l) || !runs.Same(r, play("domain m cpus 0;", c, l)) {
		t.Error(r.Err, len(r.Answers))
	}
	if r := runs.Run("domain m cpus 0;", c, nil); !runs.Same(r, api.Report{Flat: api.Flat{Online: cpuset.Of(0)}}) || runs.Show(r) != "end 0 0 0" {
		t.Error(r)
	}
}

func TestNothingIsChangedOrKept(t *testing.T) { // rules 4 and 6, P22.6
	const d = "domain m { domain a cpus 0; domain b cpus 1; }"
	c, l := little()
	c.Masks, c.Locks = []api.Set{cpuset.Of(0, 700)}, 2
	b, m := c, slices.Clone(l)
	b.Masks = slices.Clone(c.Masks)
	b.Progs = []api.Prog{{Code: slices.Clone(c.Progs[0].Code)}}
	first := runs.Run(d, c, l)
	kept := runs.Show(first)
	if !script.Same(b, c) || !slices.Equal(l, m) {
		t.Error("what was handed in is changed")
	}
	clear(first.Answers)
	clear(first.Events)
	clear(first.Flat.Tasks)
	clear(first.Flat.Owners)
	runs.Run(d, api.Config{Room: 1, Locks: 9}, []api.Entry{{Kind: api.EnTick}, {Kind: api.EnOffline, A: 1}})
	runs.Text(text)
	again := runs.Run(d, c, l)
	if runs.Show(again) != kept || !runs.Same(again, play(d, b, m)) || again.Flat.Owners[1] != -1 {
		t.Error(again)
	}
}

func FuzzText(f *testing.F) { // P22.2, P22.4
	f.Add(text)
	f.Add("domain m { domain a cpus 0-1; domain b queue 4 cpus 2; }")
	f.Fuzz(func(t *testing.T, s string) { checkBytes(t, s) })
}
