package census_test

import (
	"fmt"
	"math"
	"math/rand"
	"slices"
	"strings"
	"testing"

	"pinfold/api"
	"pinfold/census"
	"pinfold/event"
)

// row is the events of a text, with a comma between two; what a line lacks behind its name is 0.
func row(t *testing.T, text string) []api.Event {
	t.Helper()
	var l []api.Event
	for line := range strings.SplitSeq(text, ",") {
		line = strings.TrimSpace(line)
		if line == "" {
			continue
		}
		line += strings.Repeat(" 0", 4-strings.Count(line, " "))
		e, ok := event.Parse(line)
		if !ok {
			t.Fatal(line)
		}
		l = append(l, e)
	}
	return l
}

func TestExamples(t *testing.T) {
	if h := census.Histogram([]int{1, 5, 9}, []int{2, 6}); !slices.Equal(h, []int{1, 1, 1}) {
		t.Error(h)
	}
	if n, ok := census.Quantile([]int{9, 1, 5}, 50); n != 5 || !ok {
		t.Error(n, ok)
	}
}

func TestStates(t *testing.T) { // P35.1
	f := api.Flat{Time: 5, Owners: []int{1}}
	if n := census.States(f); n != [9]int{} {
		t.Error(n)
	}
	for _, state := range []int{0, 1, 8, 8, 3, -1, 9, math.MaxInt, math.MinInt, 2, 8, 5} {
		f.Tasks = append(f.Tasks, api.FlatTask{State: state, On: 4, Pc: 6, Prog: 7})
	}
	if n := census.States(f); n != [9]int{0: 1, 1: 1, 2: 1, 3: 1, 5: 1, 8: 3} {
		t.Error(n)
	}
	for state := range 9 {
		var want [9]int
		want[state] = 2
		if n := census.States(api.Flat{Tasks: []api.FlatTask{{State: state}, {State: state}}}); n != want {
			t.Error(state, n)
		}
	}
}

func TestKinds(t *testing.T) { // P35.1
	if n := census.Kinds(nil); n != [22]int{} {
		t.Error(n)
	}
	var l []api.Event
	var want [22]int
	for kind := 1; kind <= api.EvReg; kind++ {
		for range kind {
			l = append(l, api.Event{Kind: kind, Task: kind - 3, A: 1})
		}
		want[kind] = kind
	}
	l = append(l, api.Event{}, api.Event{Kind: -1}, api.Event{Kind: 22}, api.Event{Kind: math.MaxInt}, api.Event{Kind: math.MinInt})
	if n := census.Kinds(l); n != want {
		t.Error(n)
	}
}

func TestDelays(t *testing.T) { // P35.1
	for text, want := range map[string][]int{
		"":                                      nil,
		"ready 0":                               nil,
		"dispatch 0":                            nil,
		"ready 0, dispatch 0":                   {0},
		"ready 1, ready 0, dispatch 0":          {0},
		"ready 0, tick 0, move 0, dispatch":     {2}, // a name alone is of task 0
		"ready 0, ready 0, tick -1, dispatch 0": {1},
		"ready 0, hold 0, dispatch 0":           nil,
		"ready 0, park 0, dispatch 0":           nil,
		"ready 0, exit 0, dispatch 0":           nil,
		"ready 0, hold 1, park 1, exit 1, dispatch 1, dispatch 0":                                 {4},
		"ready 0, new 0, ins 0, stop 0, own 0, free 0, wait 0, out 0, mask 0, reg 0, dispatch 0":  {9},
		"ready 0, dispatch 0, dispatch 0":                                                         {0},
		"ready 0, dispatch 0, ins 0, stop 0, ready 0, idle -1, dispatch 0, ready 0, ready 1":      {0, 1},
		"tick -1, tick -1, ready 0, tick -1, park 0, tick -1, ready 0, tick -1, tick, dispatch 0": {2},
	} {
		if got := census.Delays(row(t, text), 0); !slices.Equal(got, want) {
			t.Errorf("Delays of %s: %v", text, got)
		}
	}
	if got := census.Delays(row(t, "ready -1, ready 7, dispatch 7 -1, dispatch -1"), -1); !slices.Equal(got, []int{2}) {
		t.Error(got)
	}
}

// delays is a second reading.
func delays(l []api.Event, task int) []int {
	var out []int
	for i, e := range l {
		if e.Task != task || e.Kind != api.EvReady {
			continue
		}
		next := slices.IndexFunc(l[i+1:], func(e api.Event) bool {
			return e.Task == task && slices.Contains([]int{api.EvReady, api.EvHold, api.EvPark, api.EvExit, api.EvDispatch}, e.Kind)
		})
		if next >= 0 && l[i+1+next].Kind == api.EvDispatch {
			out = append(out, next)
		}
	}
	return out
}

func TestTable(t *testing.T) { // P35.2
	l := row(t, "new 0, ready 0, dispatch 0, ins 0, ins 0, ins 0, stop 0, wait 0, new 2, ready 2, ready 2, move 2, move 2, dispatch 2, own 2, free 2, out 2, reg 2, exit 2, ins -1, ins 256, ready 7, tick 1, hold 1, park 1")
	want := []string{"0 3 1 1 1 0 1", "1 0 0 0 0 0 0", "2 0 1 0 2 2 0", "3 0 0 0 0 0 0"}
	if got := census.Table(l, 4); !slices.Equal(got, want) {
		t.Errorf("%q", got)
	}
	for tasks, many := range map[int]int{math.MinInt: 0, -1: 0, 0: 0, 1: 1, 3: 3, 255: 255, 256: 256, 257: 256, math.MaxInt: 256} {
		got := census.Table(l, tasks)
		if len(got) != many || many > 0 && (got[0] != want[0] || !strings.HasPrefix(got[many-1], fmt.Sprint(many-1, " "))) {
			t.Error(tasks, got)
		}
	}
	if got := census.Table(nil, 1); !slices.Equal(got, []string{"0 0 0 0 0 0 0"}) {
		t.Error(got)
	}
	var many []api.Event // each kind another number of times
	for i, kind := range []int{api.EvIns, api.EvDispatch, api.EvStop, api.EvReady, api.EvMove, api.EvWait} {
		many = append(many, slices.Repeat([]api.Event{{Kind: kind, Task: 11}}, 7+i)...)
	}
	if got := census.Table(many, 12); got[11] != "11 7 8 9 10 11 12" {
		t.Error(got[11])
	}
}

func TestHistogram(t *testing.T) { // P35.3
	for _, x := range []struct{ l, bounds, want []int }{
		{nil, nil, []int{0}},
		{nil, []int{1, 2}, []int{0, 0, 0}},
		{[]int{1, -7, 1}, nil, []int{3}},
		{[]int{1, 2, 3, 4, 5, 6, 7}, []int{3, 6}, []int{2, 3, 2}},
		{[]int{3, 6}, []int{3, 6}, []int{0, 1, 1}},
		{[]int{1, 2, 3, 4, 5, 6, 7}, []int{6, 3}, []int{5, 0, 2}}, // none of the others is below the second one
		{[]int{1, 2, 3, 4, 5, 6, 7}, []int{3, 3, 2, 5}, []int{2, 0, 0, 2, 3}},
		{[]int{-1, 0, 1}, []int{0}, []int{1, 2}},
		{[]int{math.MinInt, math.MaxInt, 0}, []int{math.MinInt, math.MaxInt}, []int{0, 2, 1}},
	} {
		if got := census.Histogram(x.l, x.bounds); !slices.Equal(got, x.want) {
			t.Errorf("Histogram of %v by %v: %v", x.l, x.bounds, got)
		}
	}
}

func TestQuantile(t *testing.T) { // P35.3, P35.5
	if n, ok := census.Quantile(nil, 50); n != 0 || ok {
		t.Error(n, ok)
	}
	l := []int{40, -10, 0, 30, 20, 10, -20, 60, 50, 70, -30} // in order -30, -20 .. 70
	for p, want := range map[int]int{math.MinInt: -30, -1: -30, 0: -30, 1: -30, 9: -30, 10: -20, 19: -20, 20: -10, 50: 20, 59: 20, 60: 30, 99: 60, 100: 70, 101: 70, math.MaxInt: 70} {
		if got, ok := census.Quantile(l, p); got != want || !ok {
			t.Error(p, got, ok)
		}
	}
	for p := range 101 {
		for n, x := range [][]int{{7}, {7, 7}, {8, 7}, {7, 8, 9}} {
			want := []int{7, 7, 7 + p/100, 7 + p/50}[n]
			if got, ok := census.Quantile(x, p); got != want || !ok {
				t.Error(p, x, got, ok)
			}
		}
	}
	var many []int
	for n := range 301 {
		many = append(many, n*8%301)
	}
	for p := range 101 {
		if got, ok := census.Quantile(many, p); got != 3*p || !ok {
			t.Error(p, got, ok)
		}
	}
	if l[0] != 40 || l[10] != -30 {
		t.Error("the numbers are changed:", l)
	}
}

func TestRanks(t *testing.T) { // P35.3
	for _, x := range []struct{ l, want []int }{
		{nil, nil},
		{[]int{5}, []int{0}},
		{[]int{5, 5, 5}, []int{0, 1, 2}},
		{[]int{3, 1, 2}, []int{2, 0, 1}},
		{[]int{3, 1, 3, 1, 2}, []int{3, 0, 4, 1, 2}},
		{[]int{0, math.MaxInt, math.MinInt, -1, math.MinInt}, []int{3, 4, 0, 2, 1}},
	} {
		if got := census.Ranks(x.l); !slices.Equal(got, x.want) {
			t.Error(x.l, got)
		}
	}
}

func TestBars(t *testing.T) { // P35.3
	const most = 1 << 30
	for _, x := range []struct {
		l     []int
		width int
		want  []string
	}{
		{nil, 5, nil},
		{[]int{0}, 5, []string{"0 "}},
		{[]int{-3, 0, -9}, 5, []string{"-3 ", "0 ", "-9 "}},
		{[]int{1}, 5, []string{"1 #####"}},
		{[]int{1, 2, 3, 0, -5, 4}, 8, []string{"1 ##", "2 ####", "3 ######", "0 ", "-5 ", "4 ########"}},
		{[]int{1, 2, 3}, 1, []string{"1 ", "2 ", "3 #"}},
		{[]int{2, 3, 7}, 10, []string{"2 ##", "3 ####", "7 ##########"}},
		{[]int{1, 2}, 0, []string{"1 ", "2 #"}},
		{[]int{1, 2}, math.MinInt, []string{"1 ", "2 #"}},
		{[]int{1, 2}, 100, []string{"1 " + strings.Repeat("#", 50), "2 " + strings.Repeat("#", 100)}},
		{[]int{2}, 99, []string{"2 " + strings.Repeat("#", 99)}},
		{[]int{2}, 101, []string{"2 " + strings.Repeat("#", 100)}},
		{[]int{2}, math.MaxInt, []string{"2 " + strings.Repeat("#", 100)}},
		{[]int{most, most / 2}, 4, []string{"1073741824 ####", "536870912 ##"}},
		{[]int{most + 1, most / 2, math.MaxInt, most - 1}, 4, []string{"1073741825 ####", "536870912 ##", "9223372036854775807 ####", "1073741823 ###"}},
		{[]int{math.MinInt, math.MaxInt}, 2, []string{"-9223372036854775808 ", "9223372036854775807 ##"}},
	} {
		if got := census.Bars(x.l, x.width); !slices.Equal(got, x.want) {
			t.Errorf("Bars of %v, %d: %q", x.l, x.width, got)
		}
	}
}

func TestRandomNumbers(t *testing.T) { // P35.3 to P35.6: against second readings, and the laws
	for seed := range int64(3000) {
		r := rand.New(rand.NewSource(seed))
		var l, bounds []int
		span := 1 + r.Intn(50)
		for range r.Intn(30) {
			l = append(l, r.Intn(span)-5)
		}
		for range r.Intn(6) {
			bounds = append(bounds, r.Intn(span)-5)
		}
		given := slices.Clone(l)
		h, all := census.Histogram(l, bounds), 0
		for i, n := range h {
			all += n
			for _, x := range l {
				if i < len(bounds) && x < bounds[i] && !slices.ContainsFunc(bounds[:i], func(b int) bool { return x < b }) {
					n--
				}
			}
			if n != 0 && i < len(bounds) {
				t.Fatal(l, bounds, h)
			}
		}
		if all != len(l) || len(h) != len(bounds)+1 {
			t.Fatal(l, bounds, h)
		}
		checkRanks(t, l)
		checkQuantiles(t, l)
		checkBars(t, l, 1+r.Intn(100))
		if !slices.Equal(l, given) {
			t.Fatal("the numbers are changed")
		}
	}
}

func checkRanks(t *testing.T, l []int) {
	t.Helper()
	ranks := census.Ranks(l)
	for i, x := range l {
		want := 0
		for j, y := range l {
			if y < x || y == x && j < i {
				want++
			}
		}
		if ranks[i] != want {
			t.Fatal(l, ranks)
		}
	}
	slices.Sort(ranks)
	for i, n := range ranks {
		if i != n {
			t.Fatal(l, ranks)
		}
	}
}

func checkQuantiles(t *testing.T, l []int) {
	t.Helper()
	ranks, last := census.Ranks(l), math.MinInt
	for p := range 101 {
		n, ok := census.Quantile(l, p)
		if ok != (len(l) > 0) || !ok && n != 0 {
			t.Fatal(l, p, n, ok)
		}
		if ok && (n < last || n != l[slices.Index(ranks, p*(len(l)-1)/100)]) {
			t.Fatal(l, p, n)
		}
		last = n
	}
	if len(l) > 0 {
		if n, _ := census.Quantile(l, 0); n != slices.Min(l) {
			t.Fatal(l, n)
		}
		if last != slices.Max(l) {
			t.Fatal(l, last)
		}
	}
}

func checkBars(t *testing.T, l []int, width int) {
	t.Helper()
	bars := census.Bars(l, width)
	for i, x := range l {
		n := strings.Count(bars[i], "#")
		if bars[i] != fmt.Sprint(x, " ")+strings.Repeat("#", n) || n > width || x < 1 && n > 0 || x > 0 && n != x*width/slices.Max(l) {
			t.Fatalf("%v %d %q", l, width, bars)
		}
		for j, y := range l {
			if y > x && len(bars[j])-len(fmt.Sprint(y)) < n+1 {
				t.Fatalf("%v %d %q", l, width, bars)
			}
		}
	}
}

func TestRandomRows(t *testing.T) { // P35.1, P35.2: against second readings
	often := []int{api.EvDispatch, api.EvDispatch, api.EvReady, api.EvReady, api.EvHold, api.EvPark, api.EvExit, api.EvMove, api.EvIns, api.EvStop, api.EvWait, api.EvTick, 0, 22}
	for seed := range int64(3000) {
		r := rand.New(rand.NewSource(seed))
		var l []api.Event
		for range r.Intn(40) {
			l = append(l, api.Event{Kind: often[r.Intn(len(often))], Task: r.Intn(5) - 1, Cpu: r.Intn(3), A: r.Intn(2)})
		}
		given := slices.Clone(l)
		kinds := census.Kinds(l)
		for kind := range kinds {
			if n := len(event.Of(l, kind)); kinds[kind] != n && kind > 0 || kinds[0] != 0 {
				t.Fatal(l, kinds)
			}
		}
		lines := census.Table(l, 5)
		for task := range 5 {
			if got, want := census.Delays(l, task), delays(l, task); !slices.Equal(got, want) {
				t.Fatal(l, task, got, want)
			}
			count := func(kind int) int { return event.Count(l, kind, task) }
			want := fmt.Sprint(task, count(api.EvIns), count(api.EvDispatch), count(api.EvStop), count(api.EvReady), count(api.EvMove), count(api.EvWait))
			if lines[task] != want {
				t.Fatal(l, lines[task], want)
			}
		}
		if !slices.Equal(l, given) {
			t.Fatal("the row is changed")
		}
	}
}
