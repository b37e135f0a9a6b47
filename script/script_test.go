package script_test

import (
	"fmt"
	"math"
	"math/rand"
	"reflect"
	"regexp"
	"slices"
	"strings"
	"testing"

	"pinfold/api"
	"pinfold/cpuset"
	"pinfold/script"
)

// forms is the lines of the kinds from 1 on, as the chapter has them: the name, and what an entry has (D the draw).
var forms = strings.Split("step A D, tick, new A B C, mask A B, pin A B, unpin A, online A, offline A, bubble A B, put A B, seal A, place A B, burst A, regen A, balance A", ", ")

// kinds is how many kinds there are.
const kinds = 15

// numbers are numbers of entries, the edges of all that there are among them.
var numbers = []int{0, 1, -1, 7, 9, 10, -10, 99, 100, 1023, 1 << 20, math.MaxInt32, math.MinInt32, math.MaxInt, math.MaxInt - 1, math.MinInt, math.MinInt + 1}

// draws are draws, likewise.
var draws = []uint{0, 1, 9, 10, 1 << 20, math.MaxInt, math.MaxInt + 1, math.MaxUint - 1, math.MaxUint}

// unknown are numbers that are no kind's.
var unknown = []int{0, -1, 16, 17, -15, 256 + 1, 1<<32 + 1, math.MinInt, math.MaxInt}

// known tells whether that is a kind.
func known(kind int) bool { return kind >= 1 && kind <= kinds }

// form is that of an entry of the kind: of an unknown one that of a nameless one that has A.
func form(kind int) string {
	if !known(kind) {
		return " A"
	}
	return forms[kind-1]
}

// lined is the entry's line, by a second reading of the chapter.
func lined(e api.Entry) string {
	return strings.NewReplacer(" A", fmt.Sprintf(" %d", e.A), " B", fmt.Sprintf(" %d", e.B), " C", fmt.Sprintf(" %d", e.C), " D", fmt.Sprintf(" %d", e.Draw)).Replace(form(e.Kind))
}

// bare is the entry with 0 in all that it hasn't.
func bare(e api.Entry) api.Entry {
	has := form(e.Kind)
	b := api.Entry{Kind: e.Kind}
	if strings.Contains(has, " A") {
		b.A = e.A
	}
	if strings.Contains(has, " B") {
		b.B = e.B
	}
	if strings.Contains(has, " C") {
		b.C = e.C
	}
	if strings.Contains(has, " D") {
		b.Draw = e.Draw
	}
	return b
}

// lineForms are the forms of the kinds' lines, with the forms in which numbers are written.
var lineForms = func() []*regexp.Regexp {
	var l []*regexp.Regexp
	for _, f := range forms {
		for _, n := range []string{"A", "B", "C"} {
			f = strings.Replace(f, " "+n, ` (?P<`+n+`>0|-?[1-9][0-9]*)`, 1)
		}
		f = strings.Replace(f, " D", ` (?P<D>0|[1-9][0-9]*)`, 1)
		l = append(l, regexp.MustCompile(`\A`+f+`\z`))
	}
	return l
}()

// read is the entry whose line s is, by a second reading of the chapter.
func read(s string) (api.Entry, bool) {
	for i, f := range lineForms {
		l := f.FindStringSubmatch(s)
		if l == nil {
			continue
		}
		e := api.Entry{Kind: i + 1}
		for n, to := range map[string]any{"A": &e.A, "B": &e.B, "C": &e.C, "D": &e.Draw} {
			if i := f.SubexpIndex(n); i >= 0 {
				if _, err := fmt.Sscanf(l[i], "%d", to); err != nil { // a number that doesn't go in
					return api.Entry{}, false
				}
			}
		}
		return e, true
	}
	return api.Entry{}, false
}

func checkParse(t *testing.T, s string) {
	t.Helper()
	want, is := read(s)
	if e, ok := script.Parse(s); e != want || ok != is {
		t.Fatalf("Parse(%q): %v, %t, not %v, %t", s, e, ok, want, is)
	}
}

func TestExample(t *testing.T) { // P21.1
	e := api.Entry{Kind: api.EnStep, A: 2, Draw: 5}
	if s := script.Print(e); s != "step 2 5" {
		t.Error(s)
	}
	if e, ok := script.Parse("tick"); e != (api.Entry{Kind: api.EnTick}) || !ok {
		t.Error(e, ok)
	}
}

func TestNames(t *testing.T) { // P21.1
	if len(forms) != kinds {
		t.Fatal(len(forms))
	}
	for i, f := range forms {
		name, _, _ := strings.Cut(f, " ")
		if s := script.Name(i + 1); s != name {
			t.Errorf("Name(%d): %q", i+1, s)
		}
	}
	for _, kind := range unknown {
		if s := script.Name(kind); s != "" {
			t.Errorf("Name(%d): %q", kind, s)
		}
	}
	for kind := -1000; kind <= 70000; kind++ {
		if s := script.Name(kind); (s != "") != known(kind) {
			t.Fatalf("Name(%d): %q", kind, s)
		}
	}
}

func TestPrint(t *testing.T) { // P21.1, P21.4
	check := func(e api.Entry) {
		t.Helper()
		s := script.Print(e)
		if s != lined(e) {
			t.Fatalf("Print(%v): %q, not %q", e, s, lined(e))
		}
		f, ok := script.Parse(s)
		if ok != known(e.Kind) || ok && f != bare(e) || !ok && f != (api.Entry{}) {
			t.Fatalf("Parse(%q): %v, %t", s, f, ok)
		}
	}
	for kind := -3; kind <= 19; kind++ {
		for i, a := range numbers {
			for j, b := range numbers {
				c, d := numbers[(i+j)%len(numbers)], draws[(i*3+j)%len(draws)]
				check(api.Entry{Kind: kind, A: a, B: b, C: c, Draw: d})
				check(api.Entry{Kind: kind, A: c, B: a, C: b, Draw: d})
			}
			for _, d := range draws {
				check(api.Entry{Kind: kind, A: a, Draw: d})
			}
		}
	}
	for _, kind := range unknown {
		if s := script.Print(api.Entry{Kind: kind, A: -7, B: 2, C: 3, Draw: 4}); s != " -7" {
			t.Errorf("Print of the kind %d: %q", kind, s)
		}
	}
}

func TestLines(t *testing.T) { // P21.1, by hand
	for s, want := range map[string]api.Entry{
		"step 9 0":                          {Kind: api.EnStep, A: 9},
		"step -3 18446744073709551615":      {Kind: api.EnStep, A: -3, Draw: math.MaxUint},
		"new 0 -1 -1":                       {Kind: api.EnNew, B: -1, C: -1},
		"mask 1 2":                          {Kind: api.EnMask, A: 1, B: 2},
		"pin 1 1023":                        {Kind: api.EnPin, A: 1, B: 1023},
		"unpin 4":                           {Kind: api.EnUnpin, A: 4},
		"online 1":                          {Kind: api.EnOnline, A: 1},
		"offline 1":                         {Kind: api.EnOffline, A: 1},
		"bubble -1 -1":                      {Kind: api.EnBubble, A: -1, B: -1},
		"put 3 0":                           {Kind: api.EnPut, A: 3},
		"seal 5":                            {Kind: api.EnSeal, A: 5},
		"place 5 2":                         {Kind: api.EnPlace, A: 5, B: 2},
		"burst 5":                           {Kind: api.EnBurst, A: 5},
		"regen 5":                           {Kind: api.EnRegen, A: 5},
		"balance 9223372036854775807":       {Kind: api.EnBalance, A: math.MaxInt},
		"balance -9223372036854775808":      {Kind: api.EnBalance, A: math.MinInt},
		"new -9223372036854775808 0 101010": {Kind: api.EnNew, A: math.MinInt, C: 101010},
	} {
		if e, ok := script.Parse(s); e != want || !ok {
			t.Errorf("Parse(%q): %v, %t", s, e, ok)
		}
		if p := script.Print(want); p != s {
			t.Errorf("Print(%v): %q", want, p)
		}
	}
}

func TestWrongLines(t *testing.T) { // P21.1, by hand
	for _, s := range []string{
		"", " ", "5", " 5", "\n", "tick ", " tick", "tick 0", "tick\n", "Tick", "ticks", "step", "step ", "step 1", "step 1 ", "step 1 2 3", "step 1 -1", "step 1 -0", "step 1 18446744073709551616",
		"step  1 2", "step 1  2", "step 1\t2", "step\t1 2", "step +1 2", "step 1 +2", "step 01 2", "step 1 02", "step -0 2", "step 0x1 2", "step 1_0 2", "step 1 2_0", "step 1.0 2", "step 1 2 ",
		"step 9223372036854775808 1", "step -9223372036854775809 1", "step 99999999999999999999999999999999999999 1", "step 1 99999999999999999999999999999999999999",
		"new 1 2", "new 1 2 3 4", "mask 1", "mask 1 2 3", "pin 1", "unpin", "unpin 1 2", "online", "online 1 0", "bubble 1", "put 1", "seal", "seal 1 0", "place 1", "burst 1 0", "regen", "balance", "balance 1 0",
		"balance \u0661", "balance 1\x00", "go", "exit 1", "dispatch 3 1 2 0", "step 2 5\nstep 2 5",
	} {
		if e, ok := script.Parse(s); e != (api.Entry{}) || ok {
			t.Errorf("Parse(%q): %v, %t", s, e, ok)
		}
		checkParse(t, s)
	}
}

func TestChangedLines(t *testing.T) { // P21.1
	for _, e := range []api.Entry{{A: 2, B: -1, C: 30, Draw: 45}, {A: -10, B: 0, C: 0, Draw: 0}, {A: math.MaxInt, B: math.MinInt, C: 7, Draw: math.MaxUint}} {
		for kind := range kinds {
			e.Kind = kind + 1
			s := lined(e)
			for i := 0; i <= len(s); i++ {
				checkParse(t, s[:i])
				checkParse(t, s[i:])
				for c := range 256 {
					x := string([]byte{byte(c)})
					checkParse(t, s[:i]+x+s[i:])
					if i < len(s) {
						checkParse(t, s[:i]+x+s[i+1:])
					}
				}
			}
		}
	}
}

func TestRowsOfPieces(t *testing.T) { // P21.1: all short rows of pieces
	pieces := []string{" ", "step", "tick", "new", "pin", "seal", "0", "1", "-", "10", "+", "\n"}
	var rows func(s string, left int)
	rows = func(s string, left int) {
		checkParse(t, s)
		if left == 0 {
			return
		}
		for _, p := range pieces {
			rows(s+p, left-1)
		}
	}
	rows("", 5)
	for _, name := range []string{"new", "step", "put"} {
		for _, a := range []string{"0", "-1", "12", "01", ""} {
			rows(name+" "+a+" ", 3)
			rows(name+" "+a+" 3 ", 3)
		}
	}
}

func TestLongLines(t *testing.T) { // P21.1
	for _, s := range []string{strings.Repeat("step ", 1<<18), "step 1 " + strings.Repeat("9", 1<<18), "unpin " + strings.Repeat("0", 1<<18), "new 1 2 3" + strings.Repeat(" 1", 1<<18)} {
		if e, ok := script.Parse(s); e != (api.Entry{}) || ok {
			t.Error(e, ok)
		}
	}
}

// changedConfigs are configs each of which is unlike a in one field.
func changedConfigs(a api.Config) map[string]api.Config {
	l := map[string]api.Config{}
	put := func(name string, change func(c *api.Config)) {
		c := copyConfig(a)
		change(&c)
		l[name] = c
	}
	put("room", func(c *api.Config) { c.Room++ })
	put("locks", func(c *api.Config) { c.Locks-- })
	put("prio", func(c *api.Config) { c.Progs[1].Prio++ })
	put("op", func(c *api.Config) { c.Progs[0].Code[0].Op++ })
	put("a", func(c *api.Config) { c.Progs[0].Code[0].A++ })
	put("b", func(c *api.Config) { c.Progs[1].Code[1].B++ })
	put("n", func(c *api.Config) { c.Progs[1].Code[0].N++ })
	put("less code", func(c *api.Config) { c.Progs[1].Code = c.Progs[1].Code[:1] })
	put("more code", func(c *api.Config) { c.Progs[0].Code = append(c.Progs[0].Code, api.Ins{}) })
	put("less programs", func(c *api.Config) { c.Progs = c.Progs[:1] })
	put("no programs", func(c *api.Config) { c.Progs = nil })
	put("more programs", func(c *api.Config) { c.Progs = append(c.Progs, api.Prog{}) })
	put("programs in another order", func(c *api.Config) { slices.Reverse(c.Progs) })
	put("mask", func(c *api.Config) { c.Masks[1][15] ^= 1 << 63 })
	put("less masks", func(c *api.Config) { c.Masks = c.Masks[:1] })
	put("more masks", func(c *api.Config) { c.Masks = append(c.Masks, api.Set{}) })
	put("no masks", func(c *api.Config) { c.Masks = nil })
	put("masks in another order", func(c *api.Config) { slices.Reverse(c.Masks) })
	return l
}

// copyConfig is c in memory of its own.
func copyConfig(c api.Config) api.Config {
	c.Masks = slices.Clone(c.Masks)
	c.Progs = slices.Clone(c.Progs)
	for i := range c.Progs {
		c.Progs[i].Code = slices.Clone(c.Progs[i].Code)
	}
	return c
}

func TestSame(t *testing.T) { // P21.3
	a := api.Config{Room: 4, Locks: 2, Masks: []api.Set{cpuset.Of(0, 3), cpuset.Of(1)}, Progs: []api.Prog{
		{Prio: 1, Code: []api.Ins{{Op: api.InsExit, A: 1}}},
		{Prio: 2, Code: []api.Ins{{Op: api.InsSet, A: 1, N: -5}, {Op: api.InsExit}}},
	}}
	if !script.Same(a, copyConfig(a)) || !script.Same(a, a) {
		t.Error("not the same")
	}
	for name, b := range changedConfigs(a) {
		if script.Same(a, b) || script.Same(b, a) {
			t.Error("the same:", name)
		}
		if !script.Same(b, b) {
			t.Error("not the same:", name)
		}
	}
	none, empty := api.Config{}, api.Config{Progs: []api.Prog{}, Masks: []api.Set{}}
	if !script.Same(none, empty) || !script.Same(empty, none) {
		t.Error("nil and empty lists")
	}
	none.Progs, empty.Progs = []api.Prog{{}}, []api.Prog{{Code: []api.Ins{}}}
	if !script.Same(none, empty) || !script.Same(empty, none) {
		t.Error("nil and empty code")
	}
	for i := range reflect.TypeFor[api.Config]().NumField() { // that no field was forgotten above
		if n := reflect.TypeFor[api.Config]().Field(i).Name; !slices.Contains([]string{"Room", "Locks", "Progs", "Masks"}, n) {
			t.Error(n)
		}
	}
}

// anyNumber is one, mostly a small one.
func anyNumber(r *rand.Rand) int {
	if r.Intn(4) == 0 {
		return numbers[r.Intn(len(numbers))]
	}
	return r.Intn(7) - 2
}

// anyEntry is an entry of a known kind that has 0 in what it hasn't.
func anyEntry(r *rand.Rand) api.Entry {
	return bare(api.Entry{Kind: 1 + r.Intn(kinds), A: anyNumber(r), B: anyNumber(r), C: anyNumber(r), Draw: draws[r.Intn(len(draws))]})
}

func FuzzParse(f *testing.F) { // P21.1, P21.4
	for _, form := range forms {
		f.Add(form)
	}
	f.Add("step 2 5")
	f.Add("new 0 -1 -1")
	f.Fuzz(func(t *testing.T, s string) {
		checkParse(t, s)
		if e, ok := script.Parse(s); ok && script.Print(e) != s {
			t.Fatalf("%q: %v", s, e)
		}
	})
}
