package script_test

import (
	"fmt"
	"math"
	"math/rand"
	"reflect"
	"regexp"
	"slices"
	"strconv"
	"strings"
	"testing"

	"pinfold/api"
	"pinfold/cpuset"
	"pinfold/prog"
	"pinfold/script"
	"pinfold/topo"
)

// mirror is the text of a case in which there is some of all.
const mirror = `machine domain m { domain a queue 4 cpus 0-1 ; domain b cpus 2 ; }
room 12
locks 2
set 0,2
set
set 1-3,9-1023
prog 0
	out r0
	exit r0
prog 3
	set r1 -5
	jnz r1 0
	yield
	jump 1
go
new 0 -1 -1
step 0 7
tick
put 0 -3
`

// mirrored is that case.
func mirrored() (api.Topo, api.Config, []api.Entry) {
	x := api.Topo{Domains: []api.Domain{
		{Name: "m", Up: -1, Room: 8, Cpus: cpuset.Of(0, 1, 2)},
		{Name: "a", Up: 0, Depth: 1, Room: 4, Cpus: cpuset.Of(0, 1), Leaf: true},
		{Name: "b", Up: 0, Depth: 1, Room: 8, Cpus: cpuset.Of(2), Leaf: true},
	}}
	c := api.Config{Room: 12, Locks: 2, Masks: []api.Set{cpuset.Of(0, 2), {}, cpuset.Or(cpuset.Of(1, 2, 3), cpuset.Range(9, 1023))}, Progs: []api.Prog{
		{Prio: 0, Code: []api.Ins{{Op: api.InsOut}, {Op: api.InsExit}}},
		{Prio: 3, Code: []api.Ins{{Op: api.InsSet, A: 1, N: -5}, {Op: api.InsJnz, A: 1}, {Op: api.InsYield}, {Op: api.InsJump, N: 1}}},
	}}
	l := []api.Entry{{Kind: api.EnNew, B: -1, C: -1}, {Kind: api.EnStep, Draw: 7}, {Kind: api.EnTick}, {Kind: api.EnPut, B: -3}}
	return x, c, l
}

// kase is what ParseCase answers.
type kase struct {
	x   api.Topo
	c   api.Config
	l   []api.Entry
	bad int
}

func parseCase(s string) kase {
	x, c, l, bad := script.ParseCase(s)
	return kase{x, c, l, bad}
}

// sameCase tells whether both are the same.
func sameCase(a, b kase) bool {
	return topo.Same(a.x, b.x) && script.Same(a.c, b.c) && slices.Equal(a.l, b.l) && a.bad == b.bad
}

// insForms are the forms of instructions' lines, by their ops.
var insForms = []string{"set r n", "add r r", "sub r r", "jump n", "jnz r n", "yield", "spawn r n", "join r r", "lock r n", "unlock r n", "sleep r", "mask r n", "out r", "exit r"}

var insLines = func() []*regexp.Regexp {
	var l []*regexp.Regexp
	for _, f := range insForms {
		f = strings.ReplaceAll(f, " r", " r([0-3])")
		l = append(l, regexp.MustCompile(`\A\t`+strings.ReplaceAll(f, " n", " (0|-?[1-9][0-9]{0,9})")+`\z`))
	}
	return l
}()

// readIns is the instruction whose line s is, by a second reading of layer 9's chapter.
func readIns(s string) (api.Ins, bool) {
	for i, f := range insLines {
		m := f.FindStringSubmatch(s)
		if m == nil {
			continue
		}
		x, regs := api.Ins{Op: i + 1}, []*int{nil, nil}
		regs[0], regs[1] = &x.A, &x.B
		for j, word := range strings.Fields(insForms[i])[1:] {
			n, _ := strconv.ParseInt(m[j+1], 10, 64)
			if word == "r" {
				*regs[0], regs = int(n), regs[1:]
			} else if n < math.MinInt32 || n > math.MaxInt32 {
				return api.Ins{}, false
			} else {
				x.N = int32(n)
			}
		}
		return x, true
	}
	return api.Ins{}, false
}

var (
	headLine = regexp.MustCompile(`\Aprog ([0-3])\z`)
	sizeLine = regexp.MustCompile(`\A(room|locks) (0|[1-9][0-9]{0,3})\z`)
	itemForm = regexp.MustCompile(`\A(0|[1-9][0-9]{0,3})(?:-(0|[1-9][0-9]{0,3}))?\z`)
)

// readMask is the set whose line s is: rows that rise, with a number left out between two of them.
func readMask(s string) (api.Set, bool) {
	var all api.Set
	text, is := strings.CutPrefix(s, "set ")
	if !is {
		return all, s == "set"
	}
	least := 0
	for _, item := range strings.Split(text, ",") {
		m := itemForm.FindStringSubmatch(item)
		if m == nil {
			return api.Set{}, false
		}
		from, _ := strconv.Atoi(m[1])
		to := from
		if m[2] != "" {
			to, _ = strconv.Atoi(m[2])
			if to <= from {
				return api.Set{}, false
			}
		}
		if from < least || to > 1023 {
			return api.Set{}, false
		}
		least = to + 2
		for n := from; n <= to; n++ {
			all[n/64] |= 1 << (n % 64)
		}
	}
	return all, true
}

// second is a second reading of the chapter: line by line, each of which comes where some may stand, told by a state.
type second struct {
	kase
	where   string // machine, room, locks, sets, progs, ins, entries
	program int    // the number of the first line of the one that is read
}

// size reads a line of a number.
func (r *second) size(s, word string, least, most int, to *int, where string) bool {
	m := sizeLine.FindStringSubmatch(s)
	if m == nil || m[1] != word {
		return false
	}
	*to, _ = strconv.Atoi(m[2])
	r.where = where
	return *to >= least && *to <= most
}

// body reads a line behind those of the numbers, up to go.
func (r *second) body(s string, line int) bool {
	if set, ok := readMask(s); ok && r.where == "sets" && len(r.c.Masks) < 16 {
		r.c.Masks = append(r.c.Masks, set)
		return true
	}
	if x, ok := readIns(s); ok && r.where == "ins" {
		p := &r.c.Progs[len(r.c.Progs)-1]
		p.Code = append(p.Code, x)
		return true
	}
	if m := headLine.FindStringSubmatch(s); m != nil && len(r.c.Progs) < 16 {
		r.where, r.program = "ins", line
		r.c.Progs = append(r.c.Progs, api.Prog{Prio: int(m[1][0] - '0')})
		return true
	}
	if s == "go" {
		r.where = "entries"
		return true
	}
	return false
}

// line reads a line.
func (r *second) line(s string, line int) bool {
	switch r.where {
	case "machine":
		d, is := strings.CutPrefix(s, "machine ")
		x, e, _ := topo.Parse(d)
		r.x, r.where = x, "room"
		return is && e == api.OK && topo.Print(x) == d
	case "room":
		return r.size(s, "room", 1, 256, &r.c.Room, "locks")
	case "locks":
		return r.size(s, "locks", 0, 16, &r.c.Locks, "sets")
	case "entries":
		e, ok := read(s)
		r.l = append(r.l, e)
		return ok
	}
	return r.body(s, line)
}

// ended tells whether the program that was read so far, if there is one, is one, as it ends ahead of a line.
func (r *second) ended(s string) bool {
	if r.where != "ins" || strings.HasPrefix(s, "\t") {
		return true
	}
	e, _ := prog.Check(r.c.Progs[len(r.c.Progs)-1])
	return e == api.OK
}

// readCase is the case of which s is the text, by a second reading of the chapter.
func readCase(s string) kase {
	r := second{where: "machine"}
	lines := strings.Split(s, "\n")
	last := len(lines) - 1
	for i, l := range lines {
		open := i == last && l != ""
		switch {
		case !r.ended(l):
			return kase{bad: r.program}
		case i == last && !open && r.where == "entries":
			return r.kase
		case i == last || !r.line(l, i+1):
			return kase{bad: i + 1}
		}
	}
	panic("no last line")
}

// checkCase holds what ParseCase answers against the second reading, and what it lets pass against the text.
func checkCase(t *testing.T, s string) bool {
	t.Helper()
	got, want := parseCase(s), readCase(s)
	if !sameCase(got, want) {
		t.Fatalf("ParseCase(%q): %v, not %v", s, got, want)
	}
	if got.bad == 0 && script.PrintCase(got.x, got.c, got.l) != s {
		t.Fatalf("PrintCase of ParseCase(%q) is another one", s)
	}
	return got.bad == 0
}

func TestCase(t *testing.T) { // P21.2, P21.4
	x, c, l := mirrored()
	if s := script.PrintCase(x, c, l); s != mirror {
		t.Error(s)
	}
	if got := parseCase(mirror); !sameCase(got, kase{x, c, l, 0}) {
		t.Error(got)
	}
	checkCase(t, mirror)
}

func TestLeastCase(t *testing.T) { // P21.2, P21.4
	const s = "machine domain m cpus 0 ;\nroom 1\nlocks 0\ngo\n"
	x, _, _ := topo.Parse("domain m cpus 0;")
	if got := parseCase(s); !sameCase(got, kase{x, api.Config{Room: 1}, nil, 0}) {
		t.Error(got)
	}
	if p := script.PrintCase(x, api.Config{Room: 1, Masks: []api.Set{}}, []api.Entry{}); p != s {
		t.Error(p)
	}
}

func TestPrintOfWhatMayNotBe(t *testing.T) { // P21.2
	c := api.Config{Room: -3, Locks: 1000, Masks: []api.Set{{}}, Progs: []api.Prog{{}, {Prio: -9, Code: []api.Ins{{Op: 77, A: 5}, {Op: api.InsLock, A: 9, N: 99}}}}}
	want := "machine \nroom -3\nlocks 1000\nset\nprog 0\nprog -9\n\t r5\n\tlock r9 99\ngo\n 4\nstep -1 3\n"
	if s := script.PrintCase(api.Topo{}, c, []api.Entry{{Kind: 16, A: 4, B: 5}, {Kind: api.EnStep, A: -1, Draw: 3}}); s != want {
		t.Errorf("%q", s)
	}
	many := api.Config{Masks: slices.Repeat([]api.Set{cpuset.Of(7)}, 40), Progs: slices.Repeat(c.Progs[:1], 30)}
	want = "machine \nroom 0\nlocks 0\n" + strings.Repeat("set 7\n", 40) + strings.Repeat("prog 0\n", 30) + "go\n"
	if s := script.PrintCase(api.Topo{Domains: []api.Domain{{Name: "m"}}}, many, nil); s != want {
		t.Errorf("%q", s)
	}
}

// with is mirror with its line n (from 1 on) changed: into s, which may have several or be none (without its end).
func with(n int, s string) string {
	l := strings.SplitAfter(mirror, "\n")
	l[n-1] = s
	return strings.Join(l, "")
}

func TestWrongCases(t *testing.T) { // P21.2, by hand
	for _, x := range []struct {
		text string
		bad  int
	}{
		{"", 1}, {"\n", 1}, {" ", 1}, {"go\n", 1}, {"machine", 1}, {"machine \n", 1}, {"machine\n", 1},
		{with(1, "machine domain m { domain a queue 4 cpus 0-1; domain b cpus 2 ; }\n"), 1}, // a blank is lacking
		{with(1, "machine  domain m cpus 0 ;\n"), 1},
		{with(1, "machine domain m cpus 0 ; # a note\n"), 1},
		{with(1, "machine domain m queue 8 cpus 0 ;\n"), 1},
		{with(1, "machine domain m cpus 1,0 ;\n"), 1},
		{with(1, "machine domain m {\n domain a cpus 0 ; }\n"), 1},
		{with(1, "domain m cpus 0 ;\n"), 1},
		{with(1, ""), 1},
		{with(2, "room 0\n"), 2}, {with(2, "room 257\n"), 2}, {with(2, "room 012\n"), 2}, {with(2, "room +12\n"), 2}, {with(2, "room\n"), 2}, {with(2, "room 12 \n"), 2}, {with(2, "room -1\n"), 2}, {with(2, "room 4294967297\n"), 2}, {with(2, "room 18446744073709551617\n"), 2}, {with(2, "Room 12\n"), 2}, {with(2, "locks 2\n"), 2}, {with(2, "locks 12\n"), 2},
		{with(2, ""), 2},
		{with(3, "locks -1\n"), 3}, {with(3, "locks 17\n"), 3}, {with(3, "locks\n"), 3}, {with(3, "room 2\n"), 3}, {with(3, "locks 2\nlocks 2\n"), 4},
		{with(3, ""), 3},
		{with(4, "set \n"), 4}, {with(4, "set 2,0\n"), 4}, {with(4, "set 0,1\n"), 4}, {with(4, "set 0-0\n"), 4}, {with(4, "set 1024\n"), 4}, {with(4, "set 0,\n"), 4}, {with(4, "set -1\n"), 4}, {with(4, "set 0 2\n"), 4}, {with(4, "sets\n"), 4}, {with(4, " set 0\n"), 4}, {with(4, "set r0 5\n"), 4}, {with(4, "\tset r0 5\n"), 4}, {with(4, "\n"), 4}, {with(4, "room 3\n"), 4}, {with(4, "tick\n"), 4},
		{with(7, "prog 4\n"), 7}, {with(7, "prog\n"), 7}, {with(7, "prog 00\n"), 7}, {with(7, "program 0\n"), 7}, {with(7, ""), 7}, {with(7, "\tprog 0\n"), 7},
		{with(8, "\tout r4\n"), 8}, {with(8, "out r0\n"), 7}, {with(8, "\t out r0\n"), 8}, {with(8, "\tout r0 \n"), 8}, {with(8, "\t\tout r0\n"), 8}, {with(8, "\tnope\n"), 8}, {with(8, "\t\n"), 8},
		{with(8, "\tset r0 2147483648\n"), 8},
		{with(8, "\tjump 2\n"), 7}, {with(8, "\tlock r0 16\n"), 7}, {with(8, "\tspawn r0 -1\n"), 7}, // lines that a program may have, but not this one
		{with(9, "\tout r0\n"), 7}, {with(9, ""), 7}, {with(9, "exit r0\n"), 7}, {with(9, "\texit r0"), 9},
		{with(9, "\texit r0\nset 0\n"), 10}, {with(9, "\texit r0\n\n"), 10},
		{with(11, "\tset r1 -2147483649\n"), 11}, {with(14, "\tjump 4\n"), 10}, {with(14, "\tjump -1\n"), 10}, {with(14, "\tjump 1\n\tnope\n\tnope\n"), 15},
		{with(15, "go \n"), 15}, {with(15, "Go\n"), 15}, {with(15, ""), 15}, {with(15, "new 0 -1 -1\n"), 15}, {with(15, "go\ngo\n"), 16},
		{with(16, "new 0 -1\n"), 16}, {with(16, "\n"), 16}, {with(17, "step 0 -7\n"), 17}, {with(18, "tick 0\n"), 18}, {with(19, "put 0 -3 \n"), 19}, {with(19, "set 0\n"), 19}, {with(19, "prog 0\n"), 19}, {with(19, "\texit r0\n"), 19},
		{with(19, "put 0 -3"), 19}, {mirror + "x", 20}, {mirror + "tick", 20}, {mirror + "\n", 20}, {mirror + " ", 20}, {mirror + "tick\n\n", 21},
		{"machine domain m cpus 0 ;", 1}, {"machine domain m cpus 0 ;\n", 2}, {"machine domain m cpus 0 ;\nroom 1", 2}, {"machine domain m cpus 0 ;\nroom 1\n", 3}, {"machine domain m cpus 0 ;\nroom 1\nlocks 0\n", 4},
		{"machine domain m cpus 0 ;\nroom 1\nlocks 0\nset 1\n", 5}, {"machine domain m cpus 0 ;\nroom 1\nlocks 0\ngo", 4},
		{"machine domain m cpus 0 ;\nroom 1\nlocks 0\nprog 0\n", 4}, {"machine domain m cpus 0 ;\nroom 1\nlocks 0\nprog 0\ngo\n", 4}, {"machine domain m cpus 0 ;\nroom 1\nlocks 0\nprog 0\n\tout r0\n", 4}, // a program that isn't one
		{"machine domain m cpus 0 ;\nroom 1\nlocks 0\nprog 0\n\texit r0\n", 6}, // nothing but go is lacking
		{"machine domain m cpus 0 ;\nroom 1\nlocks 0\nprog 0\n\tout r0", 5},
		{strings.ReplaceAll(mirror, "\n", "\r\n"), 1}, {"\ufeff" + mirror, 1}, {mirror[:len(mirror)-1] + "\x00\n", 19},
	} {
		if got := parseCase(x.text); !sameCase(got, kase{bad: x.bad}) {
			t.Errorf("ParseCase(%q): %v, not %d", x.text, got, x.bad)
		}
		checkCase(t, x.text)
	}
}

func TestLimits(t *testing.T) { // P21.2
	body := func(room, locks string, sets, progs, ins int) string {
		return "machine domain m cpus 0 ;\nroom " + room + "\nlocks " + locks + "\n" + strings.Repeat("set 5\n", sets) +
			strings.Repeat("prog 1\n"+strings.Repeat("\tyield\n", ins-1)+"\tjump 0\n", progs) + "go\n"
	}
	for _, x := range []struct {
		text string
		bad  int
	}{
		{body("1", "0", 0, 0, 1), 0}, {body("256", "16", 0, 0, 1), 0}, {body("257", "16", 0, 0, 1), 2}, {body("256", "17", 0, 0, 1), 3}, {body("0", "17", 0, 0, 1), 2},
		{body("1", "1", 16, 0, 1), 0}, {body("1", "1", 17, 0, 1), 20}, {body("1", "1", 18, 17, 1), 20},
		{body("1", "1", 0, 16, 1), 0}, {body("1", "1", 0, 17, 1), 36}, {body("1", "1", 16, 16, 1), 0}, {body("1", "1", 16, 17, 1), 52},
		{body("1", "1", 16, 16, 64), 0}, {body("1", "1", 16, 16, 65), 20}, {body("1", "1", 0, 1, 65), 4}, {body("1", "1", 0, 17, 64), 4 + 16*65},
		{strings.Replace(body("1", "1", 0, 17, 1), "go", "\tnope\ngo", 1), 36},
	} {
		if got := parseCase(x.text); got.bad != x.bad {
			t.Errorf("ParseCase(%q): %d, not %d", x.text, got.bad, x.bad)
		}
		checkCase(t, x.text)
	}
}

// long is a description of so many bytes: names are as long as must be.
func long(t *testing.T, bytes int) string {
	t.Helper()
	const parts = 950
	build := func(more int) string {
		d := "domain m {"
		for n := range parts {
			x := min(more, 24)
			more -= x
			d += fmt.Sprintf(" domain a%d_%s { domain b%d queue 1000 cpus %d ; }", n, strings.Repeat("x", x), n, n)
		}
		return d + " }"
	}
	d := build(bytes - len(build(0)))
	if len(d) != bytes {
		t.Fatal(len(d))
	}
	return d
}

// deep is a description of domains within one another: so many round a leaf.
func deep(n int) string {
	s := "domain leaf cpus 3 ;"
	for i := range n {
		s = fmt.Sprintf("domain d%d { %s }", i, s)
	}
	return s
}

func TestGreatMachines(t *testing.T) { // P21.2, P21.4
	for d, want := range map[string]bool{long(t, api.MaxText): true, long(t, api.MaxText+1): false, deep(0): true, deep(7): true, deep(8): false} {
		if ok := checkCase(t, "machine "+d+"\nroom 1\nlocks 0\ngo\n"); ok != want {
			t.Errorf("%.99s: %t", d, ok)
		}
	}
}

func TestChangedBytes(t *testing.T) { // P21.2, P21.4
	for i := 0; i <= len(mirror); i++ {
		checkCase(t, mirror[:i])
		checkCase(t, mirror[i:])
		for _, c := range []byte("\n\t\r 0123789-+,;{}gorxst\x00\xff") {
			checkCase(t, mirror[:i]+string([]byte{c})+mirror[i:])
			if i < len(mirror) {
				checkCase(t, mirror[:i]+string([]byte{c})+mirror[i+1:])
			}
		}
		if i < len(mirror) {
			checkCase(t, mirror[:i]+mirror[i+1:])
		}
	}
}

func TestChangedLinesOfCases(t *testing.T) { // P21.2, P21.4: lines that are taken away, doubled, changed, put elsewhere
	lines := strings.SplitAfter(strings.TrimSuffix(mirror, "\n"), "\n")
	lines[len(lines)-1] += "\n"
	others := []string{"\n", "x\n", "\t\n", "\tx\n", "\tout r1\n", "\texit r3\n", "\tjump 0\n", "\tjump 9\n", "\tlock r0 20\n", "prog 2\n", "prog 9\n", "set 3\n", "set\n", "set 3 \n", "go\n", "tick\n", "room 3\n", "machine domain q cpus 4 ;\n"}
	join := func(l ...[]string) string { return strings.Join(slices.Concat(l...), "") }
	for i := range lines {
		ahead, behind := lines[:i], lines[i+1:]
		checkCase(t, join(ahead, behind))
		for j := range lines {
			checkCase(t, join(ahead, lines[j:j+1], behind))
			checkCase(t, join(ahead, lines[j:j+1], lines[i:]))
			checkCase(t, join(ahead, behind[:min(j, len(behind))], lines[i:i+1], behind[min(j, len(behind)):]))
		}
		for _, a := range others {
			checkCase(t, join(ahead, []string{a}, behind))
			checkCase(t, join(ahead, []string{strings.TrimSuffix(a, "\n")}))
			for _, b := range others {
				checkCase(t, join(ahead, []string{a, b}, lines[i:]))
				checkCase(t, join(ahead, []string{a, b}))
				checkCase(t, join(ahead, []string{a, strings.TrimSuffix(b, "\n")}))
			}
		}
	}
}

// anyTree is a tree that may be.
func anyTree(t *testing.T, r *rand.Rand) api.Topo {
	t.Helper()
	n, cpu := 0, 0
	var domain func(depth int) string
	domain = func(depth int) string {
		n++
		text := fmt.Sprintf("domain d%d queue %d ", n, 1+r.Intn(20))
		if depth < 7 && r.Intn(depth+2) == 0 {
			text += "{"
			for range 1 + r.Intn(3) {
				text += domain(depth + 1)
			}
			return text + "}"
		}
		cpu += 3
		return text + fmt.Sprintf("cpus %d-%d;", cpu, cpu+r.Intn(3))
	}
	x, e, _ := topo.Parse(domain(0))
	if e != api.OK {
		t.Fatal(e)
	}
	return x
}

// anyProg is a program that may be.
func anyProg(r *rand.Rand) api.Prog {
	n := 1 + r.Intn(1+r.Intn(64))
	text := fmt.Sprintf("prog %d\n", r.Intn(4))
	for i := range n {
		form := insForms[r.Intn(len(insForms))]
		if i == n-1 {
			form = "exit r"
		}
		most := 16
		if strings.HasPrefix(form, "j") {
			most = n
		}
		for _, word := range strings.Fields(form)[1:] {
			to := fmt.Sprintf("%d", r.Intn(most))
			if word == "r" {
				to = fmt.Sprintf("r%d", r.Intn(4))
			} else if strings.HasPrefix(form, "set") && r.Intn(2) == 0 {
				to = fmt.Sprintf("%d", int32(r.Uint32()))
			}
			form = strings.Replace(form, " "+word, " "+strings.ToUpper(to), 1)
		}
		text += "\t" + strings.ToLower(form) + "\n"
	}
	p, e, _ := prog.Parse(text)
	if e != api.OK {
		panic(text)
	}
	return p
}

// anyCase is a case that may be.
func anyCase(t *testing.T, r *rand.Rand) kase {
	t.Helper()
	k := kase{x: anyTree(t, r), c: api.Config{Room: 1 + r.Intn(256), Locks: r.Intn(17)}}
	for range r.Intn(17) {
		var s api.Set
		for range r.Intn(5) {
			from := r.Intn(1100)
			s = cpuset.Or(s, cpuset.Range(from, from+r.Intn(1+r.Intn(200))))
		}
		k.c.Masks = append(k.c.Masks, s)
	}
	for range r.Intn(17) {
		k.c.Progs = append(k.c.Progs, anyProg(r))
	}
	for range r.Intn(20) {
		k.l = append(k.l, anyEntry(r))
	}
	return k
}

func TestRandomCases(t *testing.T) { // P21.2, P21.4
	for seed := range int64(150) {
		r := rand.New(rand.NewSource(seed))
		k := anyCase(t, r)
		s := script.PrintCase(k.x, k.c, k.l)
		if got := parseCase(s); !sameCase(got, k) {
			t.Fatalf("seed %d: %v, not %v", seed, got, k)
		}
		checkCase(t, s)
		for range 20 { // with something changed
			b := []byte(s)
			for range 1 + r.Intn(2) {
				i := r.Intn(len(b))
				switch r.Intn(3) {
				case 0:
					b[i] = "\n\t 0159-,grx"[r.Intn(12)]
				case 1:
					b = slices.Delete(b, i, min(i+1+r.Intn(8), len(b)))
				case 2:
					from := r.Intn(len(b))
					b = slices.Insert(b, i, slices.Clone(b[from:min(from+1+r.Intn(30), len(b))])...)
				}
			}
			checkCase(t, string(b))
		}
	}
}

func TestNothingIsChangedOrKept(t *testing.T) { // rule 4
	x, c, l := mirrored()
	y, d, m := mirrored()
	l = slices.Grow(l, 10)
	spare := l[:cap(l)]
	for i := len(l); i < len(spare); i++ {
		spare[i].Kind = 99
	}
	a := script.PrintCase(x, c, l)
	if !topo.Same(x, y) || !reflect.DeepEqual(c, d) || !slices.Equal(l, m) || spare[len(l)].Kind != 99 {
		t.Error("what was handed in is changed")
	}
	script.Same(c, d)
	first := parseCase(mirror)
	first.c.Masks[0], first.c.Progs[0].Code[0].A, first.l[0].A, first.x.Domains[0].Name = api.Set{}, 3, 17, "x"
	if got := parseCase(mirror); !sameCase(got, kase{y, d, m, 0}) || script.PrintCase(x, c, l) != a {
		t.Error("an answer is kept", got)
	}
}

func FuzzParseCase(f *testing.F) { // P21.2, P21.4
	f.Add(mirror)
	f.Add("machine domain m cpus 0 ;\nroom 1\nlocks 0\nprog 0\n\texit r0\ngo\ntick\n")
	f.Fuzz(func(t *testing.T, s string) { checkCase(t, s) })
}
