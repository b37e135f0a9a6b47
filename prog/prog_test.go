package prog_test

import (
	"fmt"
	"math"
	"math/big"
	"math/rand"
	"regexp"
	"slices"
	"strings"
	"testing"

	"pinfold/api"
	"pinfold/prog"
)

// forms is each instruction's line: its name, and what it has: r a register, n any number, p a place, g a program's or a mask's number, l a lock's.
var forms = map[int]string{
	api.InsSet: "set r n", api.InsAdd: "add r r", api.InsSub: "sub r r", api.InsJump: "jump p", api.InsJnz: "jnz r p",
	api.InsYield: "yield", api.InsSpawn: "spawn r g", api.InsJoin: "join r r", api.InsLock: "lock r l", api.InsUnlock: "unlock r l",
	api.InsSleep: "sleep r", api.InsMask: "mask r g", api.InsOut: "out r", api.InsExit: "exit r",
}

// others are numbers that are no instruction's.
var others = []int{math.MinInt, math.MinInt32, -14, -1, 0, 15, 16, 64, 256 + 1, 1<<32 + 1, math.MaxInt}

const (
	most  = math.MaxInt32
	least = math.MinInt32
)

// exit is the instruction that most programs here end with.
var exit = api.Ins{Op: api.InsExit}

// code is a program of the priority 1 that has these instructions.
func code(l ...api.Ins) api.Prog { return api.Prog{Prio: 1, Code: l} }

// wrong is what the document says is wrong with an instruction of a program of so many places, told by the forms.
func wrong(x api.Ins, places int) api.Errno {
	form, is := forms[x.Op]
	if !is {
		return api.ErrOp
	}
	regs := [2]int{x.A, x.B}
	for i, r := range regs {
		if i < strings.Count(form, " r") && (r < 0 || r > 3) || i >= strings.Count(form, " r") && r != 0 {
			return api.ErrReg
		}
	}
	low, high, e := int64(0), int64(0), api.ErrSize
	switch form[len(form)-2:] {
	case " n":
		low, high = least, most
	case " p":
		high, e = int64(places)-1, api.ErrJump
	case " g":
		high = 15
	case " l":
		high = 15
	}
	if int64(x.N) < low || int64(x.N) > high {
		return e
	}
	return api.OK
}

// check is what the document says of a program.
func check(p api.Prog) (api.Errno, int) {
	switch {
	case p.Prio < 0 || p.Prio > 3:
		return api.ErrSize, 0
	case len(p.Code) < 1 || len(p.Code) > 64:
		return api.ErrLen, 0
	}
	for i, x := range p.Code {
		if e := wrong(x, len(p.Code)); e != api.OK {
			return e, i
		}
	}
	if last := p.Code[len(p.Code)-1]; last.Op != 4 && last.Op != 14 {
		return api.ErrJump, len(p.Code) - 1
	}
	return api.OK, 0
}

// print is what the document says of a program's text.
func print(p api.Prog) string {
	text := fmt.Sprintf("prog %d\n", p.Prio)
	for _, x := range p.Code {
		form, is := forms[x.Op]
		if !is {
			form = " r" // an instruction that is none has A, as all but jump and yield have it
		}
		text += "\t"
		regs := []int{x.A, x.B}
		for i, word := range strings.Split(form, " ") {
			if i > 0 {
				text += " "
			}
			switch {
			case i == 0:
				text += word
			case word == "r":
				text += fmt.Sprintf("r%d", regs[0])
				regs = regs[1:]
			default:
				text += fmt.Sprintf("%d", x.N)
			}
		}
		text += "\n"
	}
	return text
}

var (
	headForm   = regexp.MustCompile(`^prog ([0-3])$`)
	lineForm   = regexp.MustCompile(`^\t([a-z]+)((?: r[0-3]){0,2})( (?:0|-?[1-9][0-9]*))?$`)
	numberForm = regexp.MustCompile(`^[lgpn]$`)
)

// readIns is the instruction that a line, by the forms, is one of.
func readIns(l string) (api.Ins, bool) {
	m := lineForm.FindStringSubmatch(l)
	if m == nil {
		return api.Ins{}, false
	}
	for op, form := range forms {
		words := strings.Split(form, " ")
		numbered := numberForm.MatchString(words[len(words)-1])
		if words[0] != m[1] || strings.Count(form, " r") != strings.Count(m[2], " r") || numbered != (m[3] != "") {
			continue
		}
		x := api.Ins{Op: op}
		for i, r := range strings.Split(m[2], " r")[1:] {
			*[]*int{&x.A, &x.B}[i] = int(r[0] - '0')
		}
		if numbered {
			n, _ := new(big.Int).SetString(m[3][1:], 10)
			if n.Cmp(big.NewInt(least)) < 0 || n.Cmp(big.NewInt(most)) > 0 {
				return api.Ins{}, false
			}
			x.N = int32(n.Int64())
		}
		return x, true
	}
	return api.Ins{}, false
}

// read is what the document says of a text.
func read(s string) (api.Prog, api.Errno, int) {
	if s == "" || s[len(s)-1] != '\n' {
		return api.Prog{}, api.ErrEnd, 0
	}
	var p api.Prog
	for i, l := range strings.Split(s[:len(s)-1], "\n") {
		if i == 0 {
			m := headForm.FindStringSubmatch(l)
			if m == nil {
				return api.Prog{}, api.ErrToken, 1
			}
			p.Prio = int(m[1][0] - '0')
			continue
		}
		x, is := readIns(l)
		if !is {
			return api.Prog{}, api.ErrToken, i + 1
		}
		p.Code = append(p.Code, x)
	}
	if e, i := check(p); e != api.OK {
		return api.Prog{}, e, i + 2
	}
	return p, api.OK, 0
}

// same holds all fields of two programs against each other, without the package's help.
func same(a, b api.Prog) bool {
	if a.Prio != b.Prio || len(a.Code) != len(b.Code) {
		return false
	}
	for i, x := range a.Code {
		if y := b.Code[i]; x.Op != y.Op || x.A != y.A || x.B != y.B || x.N != y.N {
			return false
		}
	}
	return true
}

// checkText holds what is promised of a text against what is answered.
func checkText(t *testing.T, s string) {
	p, e, at := prog.Parse(s)
	wantP, wantE, wantAt := read(s)
	if !same(p, wantP) || e != wantE || at != wantAt {
		t.Fatalf("%q: %v, %d, %d, not %v, %d, %d", s, p, e, at, wantP, wantE, wantAt)
	}
	if printed := prog.Print(p); e == api.OK && printed != s { // P9.5
		t.Fatalf("%q is printed as %q", s, printed)
	}
}

// checkProg holds what is promised of a program against what is answered.
func checkProg(t *testing.T, p api.Prog) {
	t.Helper()
	e, at := prog.Check(p)
	if wantE, wantAt := check(p); e != wantE || at != wantAt {
		t.Fatalf("%v: %d, %d, not %d, %d", p, e, at, wantE, wantAt)
	}
	text := prog.Print(p)
	if want := print(p); text != want {
		t.Fatalf("%v: %q, not %q", p, text, want)
	}
	again, e2, at2 := prog.Parse(text)
	if e == api.OK && (e2 != api.OK || at2 != 0 || !same(again, p)) { // P9.5
		t.Fatalf("%v, printed %q: %v, %d, %d", p, text, again, e2, at2)
	}
	checkText(t, text)
}

func TestName(t *testing.T) { // P9.1
	for i, name := range []string{"set", "add", "sub", "jump", "jnz", "yield", "spawn", "join", "lock", "unlock", "sleep", "mask", "out", "exit"} {
		if got := prog.Name(i + 1); got != name {
			t.Errorf("%d: %q, not %q", i+1, got, name)
		}
	}
	for _, op := range others {
		if got := prog.Name(op); got != "" {
			t.Errorf("%d: %q", op, got)
		}
	}
}

func TestCheckTellsTheFirst(t *testing.T) { // P9.2
	none := api.Ins{Op: 15, A: 4, B: 4, N: 99}
	for _, x := range []struct {
		p  api.Prog
		e  api.Errno
		at int
	}{
		{code(exit), api.OK, 0},
		{code(api.Ins{Op: api.InsJump}), api.OK, 0},
		{code(api.Ins{Op: api.InsSet, A: 1, N: -5}, api.Ins{Op: api.InsAdd, B: 1}, exit), api.OK, 0},
		{api.Prog{Prio: 3, Code: []api.Ins{exit}}, api.OK, 0},
		{api.Prog{Prio: 0, Code: []api.Ins{exit}}, api.OK, 0},
		{api.Prog{Prio: 4, Code: []api.Ins{exit}}, api.ErrSize, 0},
		{api.Prog{Prio: -1, Code: []api.Ins{exit}}, api.ErrSize, 0},
		{api.Prog{Prio: math.MaxInt, Code: []api.Ins{exit}}, api.ErrSize, 0},
		{api.Prog{Prio: math.MinInt, Code: []api.Ins{exit}}, api.ErrSize, 0},
		{api.Prog{}, api.ErrLen, 0},
		{api.Prog{Code: []api.Ins{}}, api.ErrLen, 0},
		{code(slices.Repeat([]api.Ins{exit}, 64)...), api.OK, 0},
		{code(slices.Repeat([]api.Ins{exit}, 65)...), api.ErrLen, 0},
		{code(slices.Repeat([]api.Ins{none}, 65)...), api.ErrLen, 0},
		{api.Prog{Prio: 4}, api.ErrSize, 0},
		{api.Prog{Prio: 4, Code: []api.Ins{none}}, api.ErrSize, 0},
		// an instruction's own errors
		{code(exit, none), api.ErrOp, 1},
		{code(api.Ins{}, exit), api.ErrOp, 0},
		{code(exit, exit, api.Ins{Op: api.InsJnz, A: 4, N: 9}), api.ErrReg, 2},
		{code(api.Ins{Op: api.InsLock, A: -1, N: 16}, exit), api.ErrReg, 0},
		{code(api.Ins{Op: api.InsJump, A: 1}), api.ErrReg, 0},
		{code(api.Ins{Op: api.InsJump, B: 1}), api.ErrReg, 0},
		{code(api.Ins{Op: api.InsYield, A: 1}, exit), api.ErrReg, 0},
		{code(api.Ins{Op: api.InsSet, B: 1}, exit), api.ErrReg, 0},
		{code(api.Ins{Op: api.InsSub, A: 3, B: 4}, exit), api.ErrReg, 0},
		{code(api.Ins{Op: api.InsJump, N: 1}, exit), api.OK, 0},
		{code(api.Ins{Op: api.InsJump, N: 2}, exit), api.ErrJump, 0},
		{code(api.Ins{Op: api.InsJnz, N: -1}, exit), api.ErrJump, 0},
		{code(api.Ins{Op: api.InsJnz, N: most}, exit), api.ErrJump, 0},
		{code(exit, api.Ins{Op: api.InsJump, N: least}), api.ErrJump, 1},
		{code(api.Ins{Op: api.InsSpawn, N: 15}, exit), api.OK, 0},
		{code(api.Ins{Op: api.InsSpawn, N: 16}, exit), api.ErrSize, 0},
		{code(api.Ins{Op: api.InsMask, N: 15}, exit), api.OK, 0},
		{code(api.Ins{Op: api.InsMask, N: -1}, exit), api.ErrSize, 0},
		{code(api.Ins{Op: api.InsLock, N: 15}, exit), api.OK, 0},
		{code(api.Ins{Op: api.InsUnlock, N: 16}, exit), api.ErrSize, 0},
		{code(api.Ins{Op: api.InsAdd, N: 1}, exit), api.ErrSize, 0},
		{code(exit, api.Ins{Op: api.InsExit, N: 1}), api.ErrSize, 1},
		// the first instruction's, and the last one's own last
		{code(api.Ins{Op: api.InsLock, N: 16}, none), api.ErrSize, 0},
		{code(exit, none, api.Ins{Op: api.InsOut}), api.ErrOp, 1},
		{code(api.Ins{Op: api.InsOut}), api.ErrJump, 0},
		{code(exit, api.Ins{Op: api.InsJnz}), api.ErrJump, 1},
		{code(exit, api.Ins{Op: api.InsYield}), api.ErrJump, 1},
		{code(exit, api.Ins{Op: api.InsLock, N: 16}), api.ErrSize, 1},
	} {
		if e, at := prog.Check(x.p); e != x.e || at != x.at {
			t.Errorf("%v: %d, %d, not %d, %d", x.p, e, at, x.e, x.at)
		}
	}
}

func TestEachInstruction(t *testing.T) { // P9.1, P9.2, P9.3, P9.5
	ops := slices.Clone(others)
	for op := 1; op <= 14; op++ {
		ops = append(ops, op)
	}
	regs := []int{math.MinInt, -1, 0, 1, 2, 3, 4, 1 << 32, math.MaxInt}
	for _, op := range ops {
		for _, a := range regs {
			for _, b := range regs {
				for _, n := range []int32{least, -16, -1, 0, 1, 2, 3, 14, 15, 16, 63, 64, most} {
					x := api.Ins{Op: op, A: a, B: b, N: n}
					checkProg(t, code(x))
					checkProg(t, code(exit, x, exit))
				}
			}
		}
	}
}

func TestEachPlace(t *testing.T) { // P9.2
	for _, op := range []int{api.InsJump, api.InsJnz} {
		for places := 2; places <= api.MaxCode; places++ {
			for n := -1; n <= places+1; n++ {
				p := code(slices.Repeat([]api.Ins{exit}, places)...)
				p.Code[places/2-1] = api.Ins{Op: op, N: int32(n)}
				checkProg(t, p)
			}
		}
	}
}

func TestEachEnd(t *testing.T) { // P9.2
	for op := 1; op <= 14; op++ {
		for places := 1; places <= api.MaxCode; places++ {
			p := code(slices.Repeat([]api.Ins{{Op: api.InsYield}}, places)...)
			p.Code[places-1].Op = op
			want, at := api.ErrJump, places-1
			if op == api.InsJump || op == api.InsExit {
				want, at = api.OK, 0
			}
			if e, i := prog.Check(p); e != want || i != at {
				t.Errorf("%d at the end of %d: %d, %d", op, places, e, i)
			}
		}
	}
}

func TestPrint(t *testing.T) { // P9.3
	for _, x := range []struct {
		p    api.Prog
		want string
	}{
		{code(api.Ins{Op: api.InsOut}, exit), "prog 1\n\tout r0\n\texit r0\n"},
		{api.Prog{}, "prog 0\n"},
		{api.Prog{Prio: -7, Code: []api.Ins{}}, "prog -7\n"},
		{api.Prog{Prio: math.MinInt64}, "prog -9223372036854775808\n"},
		{code(
			api.Ins{Op: api.InsSet, A: 1, N: least}, api.Ins{Op: api.InsSet, N: most}, api.Ins{Op: api.InsAdd, A: 1, B: 2}, api.Ins{Op: api.InsSub, A: 3},
			api.Ins{Op: api.InsJump, N: 12}, api.Ins{Op: api.InsJnz, A: 2, N: 3}, api.Ins{Op: api.InsYield}, api.Ins{Op: api.InsSpawn, A: 1, N: 15},
			api.Ins{Op: api.InsJoin, A: 1, B: 3}, api.Ins{Op: api.InsLock, A: 2, N: 9}, api.Ins{Op: api.InsUnlock, A: 2, N: 10}, api.Ins{Op: api.InsSleep, A: 3},
			api.Ins{Op: api.InsMask, N: 7}, api.Ins{Op: api.InsOut, A: 2}, api.Ins{Op: api.InsExit, A: 1},
		), "prog 1\n\tset r1 -2147483648\n\tset r0 2147483647\n\tadd r1 r2\n\tsub r3 r0\n\tjump 12\n\tjnz r2 3\n\tyield\n\tspawn r1 15\n\tjoin r1 r3\n\tlock r2 9\n\tunlock r2 10\n\tsleep r3\n\tmask r0 7\n\tout r2\n\texit r1\n"},
		// what an instruction hasn't isn't told, and what may not be is
		{code(api.Ins{Op: api.InsYield, A: 1, B: 2, N: 3}, api.Ins{Op: api.InsJump, A: 1, B: 2, N: -3}, api.Ins{Op: api.InsExit, A: -1, B: 2, N: 3}), "prog 1\n\tyield\n\tjump -3\n\texit r-1\n"},
		{code(api.Ins{Op: api.InsJoin, A: 4, B: -5, N: 6}), "prog 1\n\tjoin r4 r-5\n"},
		{code(api.Ins{}, api.Ins{Op: 15, A: 2, B: 3, N: 4}, exit), "prog 1\n\t r0\n\t r2\n\texit r0\n"},
		{code(slices.Repeat([]api.Ins{{Op: api.InsYield}}, 1000)...), "prog 1\n" + strings.Repeat("\tyield\n", 1000)},
	} {
		if got := prog.Print(x.p); got != x.want {
			t.Errorf("%v: %q, not %q", x.p, got, x.want)
		}
	}
}

func TestParse(t *testing.T) { // P9.3
	for _, x := range []struct {
		s string
		p api.Prog
	}{
		{"prog 1\n\texit r0\n", code(exit)},
		{"prog 1\n\tset r1 -5\n\tadd r0 r1\n\texit r0\n", code(api.Ins{Op: api.InsSet, A: 1, N: -5}, api.Ins{Op: api.InsAdd, B: 1}, exit)},
		{"prog 0\n\tjump 0\n", api.Prog{Prio: 0, Code: []api.Ins{{Op: api.InsJump}}}},
		{"prog 3\n\tset r3 2147483647\n\tset r0 -2147483648\n\tset r0 0\n\texit r3\n", api.Prog{Prio: 3, Code: []api.Ins{{Op: api.InsSet, A: 3, N: most}, {Op: api.InsSet, N: least}, {Op: api.InsSet}, {Op: api.InsExit, A: 3}}}},
		{"prog 2\n" + strings.Repeat("\tyield\n", 63) + "\tjump 63\n", api.Prog{Prio: 2, Code: append(slices.Repeat([]api.Ins{{Op: api.InsYield}}, 63), api.Ins{Op: api.InsJump, N: 63})}},
	} {
		if p, e, at := prog.Parse(x.s); e != api.OK || at != 0 || !same(p, x.p) {
			t.Errorf("%q: %v, %d, %d", x.s, p, e, at)
		}
		checkText(t, x.s)
	}
}

func TestParseRefuses(t *testing.T) { // P9.3
	yields := strings.Repeat("\tyield\n", 64)
	for _, x := range []struct {
		s  string
		e  api.Errno
		at int
	}{
		{"", api.ErrEnd, 0},
		{"prog 1", api.ErrEnd, 0},
		{"prog 1\n\texit r0", api.ErrEnd, 0},
		{"prog 9\nx\n ", api.ErrEnd, 0}, // ahead of all else
		{"prog 1\n\texit r0\n\x00", api.ErrEnd, 0},
		{"prog 1\n\texit r0\r", api.ErrEnd, 0},
		{"\n", api.ErrToken, 1},
		{"\n\n", api.ErrToken, 1},
		{"prog\n", api.ErrToken, 1},
		{"prog \n", api.ErrToken, 1},
		{"prog 4\n\texit r0\n", api.ErrToken, 1},
		{"prog -1\n\texit r0\n", api.ErrToken, 1},
		{"prog 01\n\texit r0\n", api.ErrToken, 1},
		{"prog +1\n\texit r0\n", api.ErrToken, 1},
		{"prog  1\n\texit r0\n", api.ErrToken, 1},
		{"prog 1 \n\texit r0\n", api.ErrToken, 1},
		{"prog 1\r\n\texit r0\n", api.ErrToken, 1},
		{"\tprog 1\n\texit r0\n", api.ErrToken, 1},
		{"Prog 1\n\texit r0\n", api.ErrToken, 1},
		{"\texit r0\n", api.ErrToken, 1},
		{"prog 4\n\tno r0\n", api.ErrToken, 1},
		{"prog 1\n\n", api.ErrToken, 2},
		{"prog 1\n\n\texit r0\n", api.ErrToken, 2},
		{"prog 1\n\texit r0\n\n", api.ErrToken, 3},
		{"prog 1\n\texit r0\nprog 1\n\texit r0\n", api.ErrToken, 3},
		{"prog 1\nprog 1\n", api.ErrToken, 2},
		{"prog 1\nexit r0\n", api.ErrToken, 2},
		{"prog 1\n exit r0\n", api.ErrToken, 2},
		{"prog 1\n\t\texit r0\n", api.ErrToken, 2},
		{"prog 1\n\texit r0 \n", api.ErrToken, 2},
		{"prog 1\n\texit  r0\n", api.ErrToken, 2},
		{"prog 1\n\texit\tr0\n", api.ErrToken, 2},
		{"prog 1\n\texit r0\r\n", api.ErrToken, 2},
		{"prog 1\n\texit 0\n", api.ErrToken, 2},
		{"prog 1\n\texit rr0\n", api.ErrToken, 2},
		{"prog 1\n\texit r\n", api.ErrToken, 2},
		{"prog 1\n\texit\n", api.ErrToken, 2},
		{"prog 1\n\texit \n", api.ErrToken, 2},
		{"prog 1\n\texit r4\n", api.ErrToken, 2},
		{"prog 1\n\texit r-1\n", api.ErrToken, 2},
		{"prog 1\n\texit r00\n", api.ErrToken, 2},
		{"prog 1\n\texit r4294967296\n", api.ErrToken, 2},
		{"prog 1\n\texit r18446744073709551616\n", api.ErrToken, 2},
		{"prog 1\n\texit r0 r0\n", api.ErrToken, 2},
		{"prog 1\n\texit r0 0\n", api.ErrToken, 2},
		{"prog 1\n\tEXIT r0\n", api.ErrToken, 2},
		{"prog 1\n\texits r0\n", api.ErrToken, 2},
		{"prog 1\n\t r0\n\texit r0\n", api.ErrToken, 2},
		{"prog 1\n\t\n\texit r0\n", api.ErrToken, 2},
		{"prog 1\n\tyield r0\n\texit r0\n", api.ErrToken, 2},
		{"prog 1\n\tyield \n\texit r0\n", api.ErrToken, 2},
		{"prog 1\n\tadd r1\n\texit r0\n", api.ErrToken, 2},
		{"prog 1\n\tadd r1 1\n\texit r0\n", api.ErrToken, 2},
		{"prog 1\n\tadd r0 r4\n\texit r0\n", api.ErrToken, 2},
		{"prog 1\n\tjump r0\n\texit r0\n", api.ErrToken, 2},
		{"prog 1\n\tjump\n\texit r0\n", api.ErrToken, 2},
		{"prog 1\n\tset r1\n\texit r0\n", api.ErrToken, 2},
		{"prog 1\n\tset r1 r1\n\texit r0\n", api.ErrToken, 2},
		{"prog 1\n\tset r1 -0\n\texit r0\n", api.ErrToken, 2},
		{"prog 1\n\tset r1 00\n\texit r0\n", api.ErrToken, 2},
		{"prog 1\n\tset r1 +1\n\texit r0\n", api.ErrToken, 2},
		{"prog 1\n\tset r1 1_0\n\texit r0\n", api.ErrToken, 2},
		{"prog 1\n\tset r1 0x1\n\texit r0\n", api.ErrToken, 2},
		{"prog 1\n\tset r1 2147483648\n\texit r0\n", api.ErrToken, 2},
		{"prog 1\n\tset r1 -2147483649\n\texit r0\n", api.ErrToken, 2},
		{"prog 1\n\tset r1 4294967296\n\texit r0\n", api.ErrToken, 2},
		{"prog 1\n\tset r1 99999999999999999999\n\texit r0\n", api.ErrToken, 2},
		{"prog 1\n\tset r1 1 \n\texit r0\n", api.ErrToken, 2},
		{"prog 1\n\tset r1 1 1\n\texit r0\n", api.ErrToken, 2},
		// lines by their own words go ahead of what Check says
		{"prog 1\n\tlock r0 16\n\tno r0\n", api.ErrToken, 3},
		{"prog 1\n" + yields + yields + "no\n", api.ErrToken, 130},
		{"prog 1\n\tlock r0 2147483648\n\texit r0\n", api.ErrToken, 2},
		{"prog 1\n", api.ErrLen, 2},
		{"prog 1\n\tlock r0 16\n" + yields, api.ErrLen, 2},
		{"prog 1\n" + yields + "\texit r0\n", api.ErrLen, 2},
		{"prog 1\n\tout r0\n", api.ErrJump, 2},
		{"prog 1\n\texit r0\n\tout r0\n", api.ErrJump, 3},
		{"prog 1\n\tjump 2\n\texit r0\n", api.ErrJump, 2},
		{"prog 1\n\texit r0\n\tjump -1\n", api.ErrJump, 3},
		{"prog 1\n\tyield\n\tspawn r0 16\n\texit r0\n", api.ErrSize, 3},
		{"prog 1\n\tmask r0 -1\n\texit r0\n", api.ErrSize, 2},
		{"prog 1\n\tunlock r0 -2147483648\n\texit r0\n", api.ErrSize, 2},
	} {
		if p, e, at := prog.Parse(x.s); e != x.e || at != x.at || p.Prio != 0 || len(p.Code) != 0 {
			t.Errorf("%q: %v, %d, %d, not %d, %d", x.s, p, e, at, x.e, x.at)
		}
		checkText(t, x.s)
	}
}

// checkTexts checks all texts that begin with text and have so many of the pieces more at most.
func checkTexts(t *testing.T, pieces []string, text string, most int) {
	checkText(t, text)
	if most == 0 {
		return
	}
	for _, p := range pieces {
		checkTexts(t, pieces, text+p, most-1)
	}
}

func TestParseShortTexts(t *testing.T) { // P9.3, P9.5
	checkTexts(t, []string{"prog 1\n", "\texit r0\n", "\tjump 1\n", "\tjnz r3 2\n", "\tyield\n", "\tlock r1 16\n", "\tset r2 -1\n", "\tno r0\n", "\n", "prog 4\n", "prog 1"}, "", 4)
	checkTexts(t, []string{"\n", "\t", " ", "r", "1", "-", "0", "set", "sub", "jump", "yield", "\n\texit r0\n"}, "prog 0\n", 5)
	checkTexts(t, []string{"\n", "p", "prog", " ", "0", "3", "4", "-", "\texit r2\n"}, "", 5)
}

// words are a program's text in which each instruction stands once.
const words = "prog 2\n\tset r1 -20\n\tadd r1 r2\n\tsub r3 r0\n\tjump 12\n\tjnz r2 3\n\tyield\n\tspawn r1 15\n\tjoin r1 r3\n\tlock r2 9\n\tunlock r2 10\n\tsleep r3\n\tmask r0 7\n\tout r2\n\texit r1\n"

func TestParseOfChangedTexts(t *testing.T) { // P9.3, P9.5
	checkText(t, words)
	for i := range len(words) + 1 {
		checkText(t, words[:i])
		for j := i + 1; j <= min(i+8, len(words)); j++ {
			checkText(t, words[:i]+words[j:])
		}
		for _, c := range []byte("\x00\t\n\r +-0123456789_aeijlnoprstuRX\x7f\xff") {
			checkText(t, words[:i]+string([]byte{c})+words[i:])
			if i < len(words) {
				checkText(t, words[:i]+string([]byte{c})+words[i+1:])
			}
		}
	}
}

// anyIns is an instruction that a program of so many places may have.
func anyIns(r *rand.Rand, places int) api.Ins {
	x := api.Ins{Op: 1 + r.Intn(14)}
	form := forms[x.Op]
	if strings.Contains(form, " r") {
		x.A = r.Intn(api.Regs)
	}
	if strings.Contains(form, " r r") {
		x.B = r.Intn(api.Regs)
	}
	switch {
	case strings.HasSuffix(form, " n"):
		x.N = int32(r.Uint32()) >> r.Intn(32)
	case strings.HasSuffix(form, " p"):
		x.N = int32(r.Intn(places))
	case strings.HasSuffix(form, " g"), strings.HasSuffix(form, " l"):
		x.N = int32(r.Intn(16))
	}
	return x
}

// anyProg is a program that may be.
func anyProg(r *rand.Rand) api.Prog {
	p := api.Prog{Prio: r.Intn(api.MaxPrio + 1), Code: make([]api.Ins, 1+r.Intn(api.MaxCode))}
	for i := range p.Code {
		p.Code[i] = anyIns(r, len(p.Code))
	}
	if r.Intn(2) == 0 {
		p.Code[len(p.Code)-1] = api.Ins{Op: api.InsExit, A: r.Intn(api.Regs)}
	} else {
		p.Code[len(p.Code)-1] = api.Ins{Op: api.InsJump, N: int32(r.Intn(len(p.Code)))}
	}
	return p
}

func TestProgsAtRandom(t *testing.T) { // P9.2, P9.3, P9.5
	r := rand.New(rand.NewSource(9))
	for range 3000 {
		p := anyProg(r)
		if e, at := prog.Check(p); e != api.OK || at != 0 {
			t.Fatalf("%v: %d, %d", p, e, at)
		}
		checkProg(t, p)
		for range 1 + r.Intn(2) { // and then with fields changed
			i, n := r.Intn(len(p.Code)), r.Intn(140)-70
			switch r.Intn(6) {
			case 0:
				p.Code[i].Op = n
			case 1:
				p.Code[i].A = n
			case 2:
				p.Code[i].B = n
			case 3:
				p.Code[i].N = int32(n)
			case 4:
				p.Prio = n % 6
			case 5:
				p.Code = p.Code[:i+1]
			}
		}
		checkProg(t, p)
	}
}

func TestSame(t *testing.T) { // P9.4
	long := code(slices.Repeat([]api.Ins{exit}, 1000)...)
	l := []api.Prog{
		{}, {Prio: 1}, {Prio: -1}, {Prio: 1 << 32},
		{Code: []api.Ins{{}}}, {Code: []api.Ins{{}, {}}}, {Code: []api.Ins{{Op: 1}}}, {Code: []api.Ins{{A: 1}}}, {Code: []api.Ins{{B: 1}}}, {Code: []api.Ins{{N: 1}}},
		{Code: []api.Ins{{Op: 1}, {}}}, {Code: []api.Ins{{}, {Op: 1}}}, {Code: []api.Ins{{}, {N: -1}}}, {Prio: 1, Code: []api.Ins{{}}},
		code(exit), code(exit, exit), long, code(long.Code[1:]...),
	}
	for i, a := range l {
		for j, b := range l {
			if got := prog.Same(a, api.Prog{Prio: b.Prio, Code: slices.Clone(b.Code)}); got != (i == j) {
				t.Errorf("%v and %v: %t", a, b, got)
			}
		}
	}
	if !prog.Same(api.Prog{}, api.Prog{Code: []api.Ins{}}) || !prog.Same(api.Prog{Code: []api.Ins{}}, api.Prog{}) {
		t.Error("no instructions are no instructions")
	}
}

func TestWhatIsHandedInStays(t *testing.T) { // nothing of it is changed, its spare room included
	room := []api.Ins{{Op: 15, A: 1, B: 2, N: 3}, {Op: api.InsJump, A: 1, N: 2}, exit, {Op: 77}}
	was := slices.Clone(room)
	p := api.Prog{Prio: 1, Code: room[:2]}
	prog.Check(p)
	prog.Print(p)
	prog.Same(p, p)
	if !slices.Equal(room, was) {
		t.Error(room)
	}
}

func TestProgsAreNew(t *testing.T) { // what is answered is the caller's own
	p, _, _ := prog.Parse(words)
	clear(p.Code)
	if again, e, at := prog.Parse(words); e != api.OK || at != 0 || prog.Print(again) != words {
		t.Error(again, e, at)
	}
}

func FuzzParse(f *testing.F) { // P9.3, P9.5
	for _, s := range []string{"", "prog 1\n\tout r0\n\texit r0\n", words, "prog 3\n\tset r0 -2147483648\n\tjump 1\n", "prog 1\n", "prog 1\n\tlock r0 16\n"} {
		f.Add(s)
	}
	f.Fuzz(checkText)
}
