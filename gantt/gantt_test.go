package gantt_test

import (
	"fmt"
	"math"
	"math/rand"
	"slices"
	"strconv"
	"strings"
	"testing"

	"pinfold/api"
	"pinfold/event"
	"pinfold/fair"
	"pinfold/gantt"
	"pinfold/prog"
	"pinfold/runs"
)

// row is the events of a text, with a comma between two; what a line lacks behind its name is 0.
func row(t *testing.T, text string) []api.Event {
	t.Helper()
	var l []api.Event
	for line := range strings.SplitSeq(text, ",") {
		line = strings.TrimSpace(line)
		if line == "" {
			continue
		}
		line += strings.Repeat(" 0", 4-strings.Count(line, " "))
		e, ok := event.Parse(line)
		if !ok {
			t.Fatal(line)
		}
		l = append(l, e)
	}
	return l
}

func TestExample(t *testing.T) {
	l := row(t, "dispatch 3 1, ins 3 1, ins 3 1, stop 3 1")
	if s := gantt.Spans(l); !slices.Equal(s, []api.Span{{Task: 3, Cpu: 1, From: 0, To: 3, Ins: 2}}) {
		t.Error(s)
	}
	if d := gantt.Draw(l, []int{1}, 4); !slices.Equal(d, []string{"1 .33."}) {
		t.Error(d)
	}
}

func TestSpans(t *testing.T) { // P30.1
	for _, x := range []struct {
		text string
		want []api.Span
	}{
		{"", nil},
		{"ins 0, stop 0, ready 0, new 0", nil},
		{"dispatch 0", []api.Span{{To: 1}}},
		{"dispatch 0, ins 0, tick -1, ins 0", []api.Span{{To: 4, Ins: 2}}},
		{"ins 0, stop 0, dispatch 0, stop 0, ins 0, stop 0", []api.Span{{From: 2, To: 3}}},
		{"dispatch 1 2, stop 1 1, stop 2 2, ins 1 1, ins 2 2, ins 1 2, out 1 2, stop 1 2", []api.Span{{Task: 1, Cpu: 2, To: 7, Ins: 1}}},
		{"dispatch 1 2, ins 1 2, dispatch 1 2, ins 1 2, stop 1 2, ins 1 2, stop 1 2", []api.Span{{Task: 1, Cpu: 2, To: 4, Ins: 2}, {Task: 1, Cpu: 2, From: 2, To: 4, Ins: 1}}},
		{"dispatch 1 2, dispatch 2 1, ins 2 1, ins 1 2, stop 2 1, ins 1 2, stop 1 2", []api.Span{{Task: 1, Cpu: 2, To: 6, Ins: 2}, {Task: 2, Cpu: 1, From: 1, To: 4, Ins: 1}}},
		{"dispatch 0 7, ins 0 7, stop 0 7, dispatch 0 8, ins 0 8, dispatch 0 7", []api.Span{{Cpu: 7, To: 2, Ins: 1}, {Cpu: 8, From: 3, To: 6, Ins: 1}, {Cpu: 7, From: 5, To: 6}}},
		{"dispatch -1 -1, ins -1 -1, stop -1 -1, dispatch 9223372036854775807 -9223372036854775808", []api.Span{{Task: -1, Cpu: -1, To: 2, Ins: 1}, {Task: math.MaxInt, Cpu: math.MinInt, From: 3, To: 4}}},
	} {
		if got := gantt.Spans(row(t, x.text)); !slices.Equal(got, x.want) {
			t.Errorf("Spans of %s: %v", x.text, got)
		}
	}
}

func TestCounts(t *testing.T) { // P30.1
	l := row(t, "new 0, dispatch 0 1, ins 0 1 5, ins 0 1 1, stop 0 1, ins 1 1, ins 0 2, ins 7 -1, out 0 1, ins 0 1, exit 0 1")
	for cpu, want := range map[int]int{1: 4, 2: 1, -1: 1, 0: 0, 3: 0, 7: 0} {
		if n := gantt.Busy(l, cpu); n != want {
			t.Error("Busy", cpu, n)
		}
	}
	for task, want := range map[int]int{0: 4, 1: 1, 7: 1, 2: 0, -1: 0} {
		if n := gantt.Ran(l, task); n != want {
			t.Error("Ran", task, n)
		}
	}
	if gantt.Busy(nil, 0) != 0 || gantt.Ran(nil, 0) != 0 {
		t.Error("of nothing")
	}
}

func TestWent(t *testing.T) { // P30.2
	l := row(t, "dispatch 0 1, stop 0 1, dispatch 0 1, ins 0 4, dispatch 1 3, dispatch 0 2, stop 0 5, dispatch 0 1, dispatch 0 1, dispatch 0 -1, dispatch 0 1")
	for task, want := range map[int][]int{0: {1, 2, 1, -1, 1}, 1: {3}, 2: nil, -1: nil} {
		if got := gantt.Went(l, task); !slices.Equal(got, want) {
			t.Error(task, got)
		}
	}
}

func TestWaited(t *testing.T) { // P30.2
	for text, want := range map[string]int{
		"":                          0,
		"ready 0":                   0,
		"ready 0, tick -1, tick -1": 2,
		"ready 0, dispatch 0":       0,
		"ready 0, idle -1, ready 1, dispatch 1, dispatch 0, tick -1":  3,
		"tick -1, ready 0, tick -1, hold 0, tick -1":                  1,
		"ready 0, tick -1, park 0, tick -1, ready 0, tick -1, tick 0": 3,
		"ready 0, move 0, ready 0, tick -1, dispatch 0":               3,
		"ready 0, ready 0, ready 0":                                   2,
		"dispatch 0, tick -1, hold 0, tick -1, park 0, tick -1":       0,
		"ready 0, dispatch 1, hold 1, park 1, dispatch 0":             3,
		"ready 0, exit 0, stop 0, ins 0, wait 0, new 0":               5,
		"ready 1, tick -1, tick -1, dispatch 0":                       0,
		"ready 0, tick -1, dispatch 0, tick -1, dispatch 0, tick -1":  1,
	} {
		if n := gantt.Waited(row(t, text), 0); n != want {
			t.Errorf("Waited of %s: %d, not %d", text, n, want)
		}
	}
	if n := gantt.Waited(row(t, "ready -1, tick -1, ready 7, dispatch -1"), -1); n != 2 {
		t.Error(n)
	}
}

func TestDraw(t *testing.T) { // P30.3
	const some = "ins 13 0, ins 4 1, ins 4 0, ins 5 0, tick -1, ins 5 0, ins 4 0, stop 7 0"
	for _, x := range []struct {
		text  string
		cpus  []int
		width int
		want  []string
	}{
		{"", nil, 3, nil},
		{some, nil, 3, nil},
		{"", []int{0, 9}, 3, []string{"0 ...", "9 ..."}},
		{some, []int{0}, 1, []string{"0 4"}}, // of 4 and 5, two each
		{some, []int{0}, 0, []string{"0 4"}},
		{some, []int{0}, math.MinInt, []string{"0 4"}},
		{some, []int{1, 0, 1, 2}, 2, []string{"1 4.", "0 44", "1 4.", "2 .."}},
		{some, []int{0, 1}, 4, []string{"0 3454", "1 4..."}},
		{some, []int{0, 1}, 8, []string{"0 3.45.54.", "1 .4......"}},
		{some, []int{0}, 3, []string{"0 344"}}, // two, three and three events
		{some, []int{0}, 16, []string{"0 .3...4.5...5.4.."}},
		{some, []int{0}, 5, []string{"0 34554"}},
		{"ins 2 0, ins 1 0, ins 1 0, ins 2 0", []int{0}, 1, []string{"0 1"}},
		{"ins 1 0, ins 2 0, ins 2 0, ins 1 0", []int{0}, 1, []string{"0 1"}},
		{"ins 1 0, ins 2 0, ins 2 0, ins 11 0", []int{0}, 1, []string{"0 2"}},
		{"ins 1 0, ins 2 1, ins 2 1, ins 2 2", []int{0}, 1, []string{"0 1"}},
		{"ins -17 -3, ins 5 -3", []int{-3}, 1, []string{"-3 7"}},
		{"ins -9223372036854775808 1024, ins 9223372036854775807 1024", []int{1024, math.MaxInt}, 2, []string{"1024 87", "9223372036854775807 .."}},
		{"dispatch 3 1, out 3 1, stop 3 1", []int{1}, 2, []string{"1 .."}},
	} {
		if got := gantt.Draw(row(t, x.text), x.cpus, x.width); !slices.Equal(got, x.want) {
			t.Errorf("Draw of %s, %v, %d: %q", x.text, x.cpus, x.width, got)
		}
	}
	for width, want := range map[int]int{-1: 1, 199: 199, 200: 200, 201: 200, math.MaxInt: 200} {
		got := gantt.Draw(row(t, "ins 3 1"), []int{1}, width)
		if len(got) != 1 || got[0] != "1 "+strings.Repeat(".", want-1)+"3" {
			t.Error(width, got)
		}
	}
}

// The readings below are second ones of the chapter.

func spans(l []api.Event) []api.Span {
	var out []api.Span
	for i, e := range l {
		if e.Kind != api.EvDispatch {
			continue
		}
		s := api.Span{Task: e.Task, Cpu: e.Cpu, From: i, To: len(l)}
		for j := len(l) - 1; j > i; j-- {
			if l[j].Kind == api.EvStop && l[j].Task == e.Task && l[j].Cpu == e.Cpu {
				s.To = j
			}
		}
		s.Ins = event.Count(on(l[i:s.To], e.Cpu), api.EvIns, e.Task)
		out = append(out, s)
	}
	return out
}

// on is the events on the worker.
func on(l []api.Event, cpu int) []api.Event {
	return slices.DeleteFunc(slices.Clone(l), func(e api.Event) bool { return e.Cpu != cpu })
}

func went(l []api.Event, task int) []int {
	var out []int
	for _, e := range event.Of(event.Task(l, task), api.EvDispatch) {
		if len(out) == 0 || out[len(out)-1] != e.Cpu {
			out = append(out, e.Cpu)
		}
	}
	return out
}

func waited(l []api.Event, task int) int {
	ends := func(e api.Event) bool {
		return e.Task == task && slices.Contains([]int{api.EvDispatch, api.EvHold, api.EvPark}, e.Kind)
	}
	n := 0
	for i := 0; i < len(l); i++ {
		if l[i].Kind != api.EvReady || l[i].Task != task {
			continue
		}
		end := slices.IndexFunc(l[i:], ends)
		if end < 0 {
			end = len(l) - i
		}
		n += end - 1
		i += end
	}
	return n
}

func draw(l []api.Event, cpus []int, width int) []string {
	var out []string
	for _, cpu := range cpus {
		s := fmt.Sprint(cpu, " ")
		for i := range width {
			part := on(l[i*len(l)/width:(i+1)*len(l)/width], cpu)
			best, most := 0, 0
			for task := -20; task < 40; task++ {
				if n := event.Count(part, api.EvIns, task); n > most {
					best, most = task, n
				}
			}
			if most == 0 {
				s += "."
			} else {
				s += fmt.Sprint(max(best, -best) % 10)
			}
		}
		out = append(out, s)
	}
	return out
}

// short is the beginning of a row.
func short(l []api.Event) string { return fmt.Sprint(l[:min(len(l), 50)]) }

// check holds all answers about a row against the second readings.
func check(t *testing.T, l []api.Event, cpus, tasks []int, width int) {
	t.Helper()
	given := slices.Clone(l)
	if got, want := gantt.Spans(l), spans(l); !slices.Equal(got, want) {
		t.Fatalf("Spans of %s: %v, not %v", short(l), got, want)
	}
	if got, want := gantt.Draw(l, cpus, width), draw(l, cpus, width); !slices.Equal(got, want) {
		t.Fatalf("Draw of %s by %v, %d: %q, not %q", short(l), cpus, width, got, want)
	}
	for _, cpu := range cpus {
		if got, want := gantt.Busy(l, cpu), len(event.Of(on(l, cpu), api.EvIns)); got != want {
			t.Fatalf("Busy of %s, %d: %d, not %d", short(l), cpu, got, want)
		}
	}
	for _, task := range tasks {
		if got, want := gantt.Ran(l, task), event.Count(l, api.EvIns, task); got != want {
			t.Fatalf("Ran of %s, %d: %d, not %d", short(l), task, got, want)
		}
		if got, want := gantt.Went(l, task), went(l, task); !slices.Equal(got, want) {
			t.Fatalf("Went of %s, %d: %v, not %v", short(l), task, got, want)
		}
		if got, want := gantt.Waited(l, task), waited(l, task); got != want {
			t.Fatalf("Waited of %s, %d: %d, not %d", short(l), task, got, want)
		}
	}
	if !slices.Equal(l, given) {
		t.Fatal("the row is changed")
	}
}

func TestRandomRows(t *testing.T) { // P30.1 to P30.3
	often := []int{api.EvDispatch, api.EvIns, api.EvIns, api.EvIns, api.EvStop, api.EvReady, api.EvReady, api.EvHold, api.EvPark, api.EvMove, api.EvExit, api.EvTick, 0, 22}
	for seed := range int64(5000) {
		r := rand.New(rand.NewSource(seed))
		var l []api.Event
		few := 2 + r.Intn(30)
		for range r.Intn(40) {
			l = append(l, api.Event{Kind: often[r.Intn(len(often))], Task: r.Intn(few) - 1, Cpu: r.Intn(3), A: r.Intn(2)})
		}
		check(t, l, []int{0, 2, 1, 3}, []int{-1, 0, 1, 2}, 1+r.Intn(60))
	}
}

// machineRow is what a machine of three workers tells of a script by the seed.
func machineRow(t *testing.T, seed uint64) []api.Event {
	t.Helper()
	var progs []api.Prog
	for _, text := range []string{"set r1 1, yield, jump 0", "set r1 3, set r2 2, sleep r2, add r2 r1, out r2, exit r1", "lock r0 0, yield, spawn r1 1, unlock r0 0, join r1 r2, jump 0"} {
		p, e, line := prog.Parse("prog 0\n\t" + strings.ReplaceAll(text, ", ", "\n\t") + "\n")
		if e != api.OK {
			t.Fatal(text, e, line)
		}
		progs = append(progs, p)
	}
	r := runs.Run("domain m { domain a { domain a0 cpus 0; domain a1 cpus 1; } domain b cpus 5; }", api.Config{Room: 20, Locks: 1, Progs: progs}, fair.Script(seed, []int{0, 1, 5}, 3, 500))
	if r.Err != api.OK {
		t.Fatal(r.Err)
	}
	return r.Events
}

func TestMachines(t *testing.T) { // P30.1 to P30.5: each ins stands in a span, and no two tasks ever run on one worker
	for seed := range uint64(20) {
		l := machineRow(t, seed)
		tasks := make([]int, 20)
		for i := range tasks {
			tasks[i] = i
		}
		check(t, l, []int{0, 1, 5}, tasks, 1+int(seed*10%200))
		busy, ran, ins := 0, 0, 0
		for _, cpu := range []int{0, 1, 5} {
			busy += gantt.Busy(l, cpu)
		}
		for _, task := range tasks {
			ran += gantt.Ran(l, task)
		}
		ends := map[int]int{}
		for _, s := range gantt.Spans(l) {
			ins += s.Ins
			if s.From < ends[s.Cpu] || s.To < s.From {
				t.Fatal("spans overlap:", s)
			}
			ends[s.Cpu] = s.To
		}
		if busy == 0 || busy != ran || ran != ins {
			t.Fatal(busy, ran, ins)
		}
		for _, line := range gantt.Draw(l, []int{5}, 200) {
			if name, signs, _ := strings.Cut(line, " "); name != strconv.Itoa(5) || len(signs) != 200 {
				t.Fatal(line)
			}
		}
	}
}
