package event_test

import (
	"fmt"
	"math"
	"math/rand"
	"regexp"
	"slices"
	"strings"
	"testing"

	"pinfold/api"
	"pinfold/event"
)

// kinds are the names of the kinds, from 1 on, as the chapter has them.
const kinds = "new, dispatch, ins, stop, ready, park, hold, move, own, free, wait, out, exit, online, offline, tick, fail, idle, mask, bubble, reg"

// names is the names by their kinds; none of 0.
func names() []string { return append([]string{""}, strings.Split(kinds, ", ")...) }

// numbers are numbers of events, the edges of all that there are among them.
var numbers = []int{0, 1, -1, 7, 9, 10, -10, 99, 100, 1023, 1 << 20, math.MaxInt32, math.MinInt32, math.MaxInt, math.MaxInt - 1, math.MinInt, math.MinInt + 1}

// unknown are numbers that are no kind's.
var unknown = []int{0, -1, 22, 23, -21, 256 + 1, 1<<32 + 1, math.MinInt, math.MaxInt}

// lined is the event's line, by a second reading of the chapter.
func lined(e api.Event) string {
	name := ""
	if e.Kind >= 1 && e.Kind <= 21 {
		name = names()[e.Kind]
	}
	return fmt.Sprintf("%s %d %d %d %d", name, e.Task, e.Cpu, e.A, e.B)
}

// form is the form of a line: that of its numbers is the one in which decimal numbers are written.
var form = regexp.MustCompile(`^([a-z]+) (0|-?[1-9][0-9]*) (0|-?[1-9][0-9]*) (0|-?[1-9][0-9]*) (0|-?[1-9][0-9]*)$`)

// read is the event whose line s is, by a second reading of the chapter.
func read(s string) (api.Event, bool) {
	var e api.Event
	l := form.FindStringSubmatch(s)
	if l == nil || strings.HasSuffix(s, "\n") {
		return e, false
	}
	e.Kind = slices.Index(names(), l[1])
	if e.Kind < 1 {
		return api.Event{}, false
	}
	for i, to := range []*int{&e.Task, &e.Cpu, &e.A, &e.B} {
		if _, err := fmt.Sscanf(l[i+2], "%d", to); err != nil { // a number that no int has
			return api.Event{}, false
		}
	}
	return e, true
}

// readAll is the events of a text of lines, by a second reading of the chapter.
func readAll(s string) ([]api.Event, int) {
	lines := strings.Split(s, "\n")
	last := len(lines) - 1
	var l []api.Event
	for i, line := range lines[:last] {
		e, ok := read(line)
		if !ok {
			return nil, i + 1
		}
		l = append(l, e)
	}
	if lines[last] != "" {
		return nil, last + 1
	}
	return l, 0
}

func checkParse(t *testing.T, s string) {
	t.Helper()
	want, is := read(s)
	if e, ok := event.Parse(s); e != want || ok != is {
		t.Fatalf("Parse(%q): %v, %t, not %v, %t", s, e, ok, want, is)
	}
}

func checkParseAll(t *testing.T, s string) {
	t.Helper()
	want, bad := readAll(s)
	if l, n := event.ParseAll(s); !slices.Equal(l, want) || n != bad {
		t.Fatalf("ParseAll(%q): %v, %d, not %v, %d", s, l, n, want, bad)
	}
}

// some is an event of a known kind, with numbers of all sizes.
func some(r *rand.Rand) api.Event {
	n := func() int {
		if r.Intn(4) == 0 {
			return numbers[r.Intn(len(numbers))]
		}
		return r.Intn(7) - 2
	}
	return api.Event{Kind: 1 + r.Intn(21), Task: n(), Cpu: n(), A: n(), B: n()}
}

// row is a row of so many such events.
func row(r *rand.Rand, n int) []api.Event {
	var l []api.Event
	for range n {
		l = append(l, some(r))
	}
	return l
}

func TestExample(t *testing.T) { // P11.2
	e := api.Event{Kind: api.EvDispatch, Task: 3, Cpu: 1, A: 2}
	if s := event.Print(e); s != "dispatch 3 1 2 0" {
		t.Error(s)
	}
	if f, ok := event.Parse("dispatch 3 1 2 0"); f != e || !ok {
		t.Error(f, ok)
	}
	if l, bad := event.ParseAll("dispatch 3 1 2 0\nfail -1 -1 1 0\n"); !slices.Equal(l, []api.Event{e, {Kind: api.EvFail, Task: -1, Cpu: -1, A: 1}}) || bad != 0 {
		t.Error(l, bad)
	}
}

func TestNames(t *testing.T) { // P11.1
	if n := len(names()); n != 22 {
		t.Fatal(n)
	}
	for kind, name := range names() {
		if s := event.Name(kind); s != name {
			t.Errorf("Name(%d): %q", kind, s)
		}
		if kind == 0 {
			continue
		}
		if k, ok := event.Kind(name); k != kind || !ok {
			t.Errorf("Kind(%q): %d, %t", name, k, ok)
		}
	}
	for _, kind := range unknown {
		if s := event.Name(kind); s != "" {
			t.Errorf("Name(%d): %q", kind, s)
		}
	}
	for kind := -1000; kind <= 70000; kind++ {
		if s := event.Name(kind); (s != "") != (kind >= 1 && kind <= 21) {
			t.Fatalf("Name(%d): %q", kind, s)
		}
	}
}

func TestWrongNames(t *testing.T) { // P11.1
	check := func(name string) {
		t.Helper()
		want := max(slices.Index(names(), name), 0) // none has the empty name
		if k, ok := event.Kind(name); k != want || ok != (want > 0) {
			t.Fatalf("Kind(%q): %d, %t", name, k, ok)
		}
	}
	for _, name := range append(names(), " ", "\x00", "None", "kind", "21", "set", "jump", strings.Repeat("new", 1<<16)) {
		check(strings.ToUpper(name))
		check(name + " 1")
		for i := 0; i <= min(len(name), 12); i++ {
			check(name[:i])
			check(name[i:])
			for c := range 256 {
				check(name[:i] + string([]byte{byte(c)}) + name[i:])
				if i < len(name) {
					check(name[:i] + string([]byte{byte(c)}) + name[i+1:])
				}
			}
		}
	}
}

func TestPrint(t *testing.T) { // P11.2, P11.4
	for kind := -3; kind <= 25; kind++ {
		for _, a := range numbers {
			for _, b := range numbers {
				for _, e := range []api.Event{{Kind: kind, Task: a, Cpu: b}, {Kind: kind, Cpu: a, A: b}, {Kind: kind, A: a, B: b}, {Kind: kind, Task: b, B: a}} {
					s := event.Print(e)
					if s != lined(e) {
						t.Fatalf("Print(%v): %q", e, s)
					}
					f, ok := event.Parse(s)
					if known := kind >= 1 && kind <= 21; ok != known || known && f != e || !known && f != (api.Event{}) {
						t.Fatalf("Parse(%q): %v, %t", s, f, ok)
					}
				}
			}
		}
	}
	for _, kind := range unknown {
		if s := event.Print(api.Event{Kind: kind, Task: -1, Cpu: 2, A: 30, B: -40}); s != " -1 2 30 -40" {
			t.Errorf("Print of the kind %d: %q", kind, s)
		}
	}
}

func TestUnlike(t *testing.T) { // P11.4
	few := []int{0, 1, -1, 10, 11, 110}
	seen := make(map[string]api.Event)
	for kind := 1; kind <= 21; kind++ {
		for i := range len(few) * len(few) * len(few) * len(few) {
			e := api.Event{Kind: kind, Task: few[i%6], Cpu: few[i/6%6], A: few[i/36%6], B: few[i/216]}
			s := event.Print(e)
			if other, ok := seen[s]; ok {
				t.Fatalf("%v and %v: %q", e, other, s)
			}
			seen[s] = e
			if f, ok := event.Parse(s); f != e || !ok {
				t.Fatalf("Parse(%q): %v, %t", s, f, ok)
			}
		}
	}
}

func TestParsePieces(t *testing.T) { // P11.2: all short rows of pieces
	pieces := []string{"", "new", "exit", "New", "0", "-1", "12", "-0", "+1", "01", "0x1", "1_0", "a", "9223372036854775807", "9223372036854775808", "-9223372036854775808", "-9223372036854775809"}
	for _, first := range pieces {
		checkParse(t, first)
		for _, a := range pieces {
			checkParse(t, first+" "+a)
			for _, b := range pieces {
				checkParse(t, first+" "+a+" "+b)
				checkParse(t, first+" "+a+" "+b+" 0")
				checkParse(t, first+" "+a+" "+b+" 0 0")
				checkParse(t, first+" 0 0 "+a+" "+b)
				checkParse(t, first+" 0 0 0 "+a+" "+b)
				checkParse(t, first+" 0 0 0 0 "+a+" "+b)
				checkParse(t, first+" "+a+" 3 -4 "+b)
			}
		}
	}
}

func TestParseBytes(t *testing.T) { // P11.2: a line with every byte changed, put in, left out
	for _, s := range []string{"reg 3 -1 20 0", "new 0 0 0 0", "dispatch -12 1 2 9223372036854775807", "exit -9223372036854775808 1 1 1", "ins 1 2 3 4\nins 1 2 3 4\n"} {
		checkParse(t, s)
		checkParseAll(t, s)
		checkParseAll(t, s+"\n")
		for i := 0; i <= len(s); i++ {
			checkParse(t, s[:i])
			checkParse(t, s[i:])
			checkParseAll(t, s[:i])
			checkParseAll(t, s[i:]+"\n")
			for c := range 256 {
				x := string([]byte{byte(c)})
				checkParse(t, s[:i]+x+s[i:])
				checkParseAll(t, s[:i]+x+s[i:]+"\n")
				if i < len(s) {
					checkParse(t, s[:i]+x+s[i+1:])
					checkParseAll(t, s[:i]+x+s[i+1:]+"\n")
				}
			}
		}
	}
	for _, s := range []string{strings.Repeat(" ", 1<<16), strings.Repeat("new ", 1<<14), "new " + strings.Repeat("9", 1<<16) + " 0 0 0", "new\t0 0 0 0", "new 0\u00a00 0 0", "new 0 0 0 0\r", "new ٣ 0 0 0"} {
		checkParse(t, s)
		checkParseAll(t, s)
		checkParseAll(t, s+"\n")
	}
}

func TestParseAllLines(t *testing.T) { // P11.2: all short rows of lines
	lines := []string{"", "\n", "new 0 -1 0 -1\n", "tick -1 -1 1 0\n", "tick -1 -1 1 0", "none\n", "none", "exit 0 0 0\n", " 1 2 3 4\n", "out 1 2 3 4\r\n"}
	for i := range 10 * 10 * 10 * 10 {
		checkParseAll(t, lines[i%10]+lines[i/10%10]+lines[i/100%10]+lines[i/1000])
	}
	for _, x := range []struct {
		s   string
		bad int
	}{
		{"", 0}, {"\n", 1}, {"tick -1 -1 1 0", 1}, {"tick -1 -1 1 0\n", 0}, {"tick -1 -1 1 0\n\n", 2}, {"tick -1 -1 1 0\ntick -1 -1 2 0", 2}, {"tick -1 -1 1 0\nnone\nnone\n", 2}, {" ", 1},
	} {
		if l, bad := event.ParseAll(x.s); bad != x.bad || bad != 0 && len(l) != 0 {
			t.Errorf("ParseAll(%q): %v, %d", x.s, l, bad)
		}
	}
}

func TestPrintAll(t *testing.T) { // P11.2, P11.4
	r := rand.New(rand.NewSource(11))
	for n := range 200 {
		l := row(r, n)
		was := slices.Clone(l)
		want := ""
		for _, e := range l {
			want += lined(e) + "\n"
		}
		s := event.PrintAll(l)
		if s != want {
			t.Fatalf("PrintAll(%v): %q", l, s)
		}
		if back, bad := event.ParseAll(s); !slices.Equal(back, l) || bad != 0 {
			t.Fatalf("ParseAll(%q): %v, %d", s, back, bad)
		}
		checkParseAll(t, s+"none 1 2 3 4\n"+s)
		if n > 0 {
			l[r.Intn(n)].Kind, was = 0, l
			checkParseAll(t, event.PrintAll(l))
			if event.PrintAll(l) == s {
				t.Fatal("an unknown kind is printed as a known one")
			}
		}
		if !slices.Equal(l, was) {
			t.Fatal("what is handed in is changed")
		}
	}
	if s := event.PrintAll(nil) + event.PrintAll([]api.Event{}); s != "" {
		t.Errorf("%q", s)
	}
	long := row(r, 20000)
	if back, bad := event.ParseAll(event.PrintAll(long)); !slices.Equal(back, long) || bad != 0 {
		t.Error(len(back), bad)
	}
	if l, bad := event.ParseAll(event.PrintAll(long) + "x"); len(l) != 0 || bad != 20001 {
		t.Error(len(l), bad)
	}
}

// kept is those for which is holds, in order.
func kept(l []api.Event, is func(e api.Event) bool) []api.Event {
	return slices.DeleteFunc(slices.Clone(l), func(e api.Event) bool { return !is(e) })
}

func TestRows(t *testing.T) { // P11.3
	r := rand.New(rand.NewSource(113))
	few := []int{-1, 0, 1, 2, 3, 22, math.MinInt, math.MaxInt}
	for n := range 300 {
		l := make([]api.Event, n%40, n%40+3)
		for i := range l {
			l[i] = api.Event{Kind: few[r.Intn(len(few))], Task: few[r.Intn(len(few))], Cpu: r.Intn(3), A: i, B: r.Intn(3)}
		}
		was := slices.Clone(l[:cap(l)])
		for _, kind := range append(few, 4, 21, 1<<32+1) {
			want := kept(l, func(e api.Event) bool { return e.Kind == kind })
			if got := event.Of(l, kind); !slices.Equal(got, want) {
				t.Fatalf("Of(%v, %d): %v", l, kind, got)
			}
			want = kept(l, func(e api.Event) bool { return e.Task == kind })
			if got := event.Task(l, kind); !slices.Equal(got, want) {
				t.Fatalf("Task(%v, %d): %v", l, kind, got)
			}
			for _, task := range append(few, 4, 1<<32) {
				want = kept(l, func(e api.Event) bool { return e.Kind == kind && e.Task == task })
				if got := event.Count(l, kind, task); got != len(want) {
					t.Fatalf("Count(%v, %d, %d): %d", l, kind, task, got)
				}
			}
		}
		if !slices.Equal(l[:cap(l)], was) {
			t.Fatal("what is handed in is changed")
		}
	}
	if n := len(event.Of(nil, 0)) + len(event.Task(nil, 0)) + event.Count(nil, 0, 0); n != 0 {
		t.Error(n)
	}
}

func TestNewMemory(t *testing.T) { // P11.3: an answer is apart from what is handed in, also where all are chosen
	l := []api.Event{{Kind: 2, Task: 5, A: 1}, {Kind: 2, Task: 5, A: 2}}
	was := slices.Clone(l)
	for _, got := range [][]api.Event{event.Of(l, 2), event.Task(l, 5)} {
		if !slices.Equal(got, l) {
			t.Fatal(got)
		}
		got[0].A, got[1].A = 7, 8
		if !slices.Equal(l, was) {
			t.Fatal("what is handed in is kept")
		}
	}
	a, _ := event.ParseAll("new 1 2 3 4\n")
	b, _ := event.ParseAll("new 1 2 3 4\n")
	a[0].A = 9
	if b[0].A != 3 {
		t.Error(b)
	}
}

func FuzzParse(f *testing.F) { // P11.2, P11.4
	for _, s := range []string{"", "dispatch 3 1 2 0", "new 0 -1 0 -1\nout 0 0 -5 0\n", " 1 2 3 4", "tick -1 -1 1048576 0\n\n", "exit 0 0 -2147483648 00\n"} {
		f.Add(s)
	}
	f.Fuzz(func(t *testing.T, s string) {
		checkParse(t, s)
		checkParseAll(t, s)
		checkParseAll(t, s+"\n")
		if l, bad := event.ParseAll(s); bad == 0 && event.PrintAll(l) != s {
			t.Fatalf("%q is printed as %q", s, event.PrintAll(l))
		}
	})
}
