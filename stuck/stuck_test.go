package stuck_test

import (
	"math"
	"math/rand"
	"slices"
	"testing"

	"pinfold/stuck"
)

// chain is the task's chain, by a second reading of the chapter: row by row, as long as there is a wait.
func chain(l []stuck.Wait, task int) []int {
	c := []int{task}
	for {
		i := slices.IndexFunc(l, func(w stuck.Wait) bool { return w.Task == task })
		if i < 0 || slices.Contains(c, l[i].On) {
			return c
		}
		task = l[i].On
		c = append(c, task)
	}
}

// comesBack tells whether the last one of the task's chain waits for the task.
func comesBack(l []stuck.Wait, task int) bool {
	c := chain(l, task)
	return slices.Contains(l, stuck.Wait{Task: c[len(c)-1], On: task})
}

// rounds and stucks are a second reading of the chapter.
func rounds(l []stuck.Wait) []int {
	return chosen(l, func(task int) bool { return comesBack(l, task) })
}

func stucks(l []stuck.Wait) []int {
	return chosen(l, func(task int) bool {
		return slices.ContainsFunc(chain(l, task), func(x int) bool { return comesBack(l, x) })
	})
}

func chosen(l []stuck.Wait, is func(task int) bool) []int {
	var c []int
	for _, w := range l {
		if is(w.Task) {
			c = append(c, w.Task)
		}
	}
	slices.Sort(c)
	return c
}

// check holds all answers of a row against the second reading.
func check(t *testing.T, l []stuck.Wait) {
	t.Helper()
	if got, want := stuck.Rounds(l), rounds(l); !slices.Equal(got, want) {
		t.Fatalf("Rounds(%v): %v, not %v", l, got, want)
	}
	if got, want := stuck.Stuck(l), stucks(l); !slices.Equal(got, want) {
		t.Fatalf("Stuck(%v): %v, not %v", l, got, want)
	}
	for _, w := range l {
		for _, task := range []int{w.Task, w.On, w.Task + 1} {
			checkChain(t, l, task)
		}
	}
	checkChain(t, l, 0)
}

func checkChain(t *testing.T, l []stuck.Wait, task int) {
	t.Helper()
	got := stuck.Chain(l, task)
	if want := chain(l, task); !slices.Equal(got, want) {
		t.Fatalf("Chain(%v, %d): %v, not %v", l, task, got, want)
	}
	last := got[len(got)-1]
	waits := slices.ContainsFunc(l, func(w stuck.Wait) bool { return w.Task == last })
	back := slices.ContainsFunc(l, func(w stuck.Wait) bool { return w.Task == last && slices.Contains(got, w.On) })
	if waits != back { // P27.4
		t.Fatalf("Chain(%v, %d): %v ends with a task that waits for another one", l, task, got)
	}
}

func TestExample(t *testing.T) { // P27.2
	l := []stuck.Wait{{0, 1}, {1, 2}, {2, 1}, {3, 4}}
	if x := stuck.Rounds(l); !slices.Equal(x, []int{1, 2}) {
		t.Error(x)
	}
	if x := stuck.Stuck(l); !slices.Equal(x, []int{0, 1, 2}) {
		t.Error(x)
	}
	for task, want := range map[int][]int{0: {0, 1, 2}, 1: {1, 2}, 2: {2, 1}, 3: {3, 4}, 4: {4}, 5: {5}, -1: {-1}} {
		if x := stuck.Chain(l, task); !slices.Equal(x, want) {
			t.Error(task, x)
		}
	}
	check(t, l)
}

func TestSmallRows(t *testing.T) { // P27.2, by hand
	for _, x := range []struct {
		l             []stuck.Wait
		rounds, stuck []int
	}{
		{nil, nil, nil},
		{[]stuck.Wait{}, nil, nil},
		{[]stuck.Wait{{5, 5}}, []int{5}, []int{5}},
		{[]stuck.Wait{{5, 6}}, nil, nil},
		{[]stuck.Wait{{5, 0}, {0, 5}}, []int{0, 5}, []int{0, 5}},
		{[]stuck.Wait{{9, 8}, {8, 7}, {7, 9}, {1, 8}, {2, 1}, {3, 0}}, []int{7, 8, 9}, []int{1, 2, 7, 8, 9}},
		{[]stuck.Wait{{4, 3}, {3, 4}, {1, 0}, {0, 1}, {2, 0}, {5, 4}}, []int{0, 1, 3, 4}, []int{0, 1, 2, 3, 4, 5}},
		{[]stuck.Wait{{3, 2}, {2, 1}, {1, 0}}, nil, nil},
		{[]stuck.Wait{{-1, -2}, {-2, -1}, {-7, -1}}, []int{-2, -1}, []int{-7, -2, -1}},
		{[]stuck.Wait{{1, -1}, {2, -1}}, nil, nil},
	} {
		if got := stuck.Rounds(x.l); !slices.Equal(got, x.rounds) {
			t.Errorf("Rounds(%v): %v", x.l, got)
		}
		if got := stuck.Stuck(x.l); !slices.Equal(got, x.stuck) {
			t.Errorf("Stuck(%v): %v", x.l, got)
		}
		check(t, x.l)
	}
	if c := stuck.Chain(nil, 3); !slices.Equal(c, []int{3}) {
		t.Error(c)
	}
}

// allRows lets each row of waits of the tasks from 0 to tasks - 1 be seen: each of them waits for one up to the number tasks, or doesn't.
func allRows(tasks int, see func(l []stuck.Wait)) {
	var next func(l []stuck.Wait, task int)
	next = func(l []stuck.Wait, task int) {
		if task == tasks {
			see(l)
			return
		}
		next(l, task+1)
		for on := range tasks + 1 {
			next(append(slices.Clip(l), stuck.Wait{Task: task, On: on}), task+1)
		}
	}
	next(nil, 0)
}

func TestAllRows(t *testing.T) { // P27.2, P27.4, P27.5
	for tasks := range 5 {
		allRows(tasks, func(l []stuck.Wait) {
			check(t, l)
			m := slices.Clone(l)
			slices.Reverse(m)
			check(t, m)
			if len(m) > 2 {
				m[0], m[1] = m[1], m[0]
				check(t, m)
			}
		})
	}
}

func TestRandomRows(t *testing.T) { // P27.2, P27.4: numbers of all kinds, in any order
	r := rand.New(rand.NewSource(1))
	edges := []int{math.MinInt, math.MinInt + 1, -1, 0, 1, math.MaxInt - 1, math.MaxInt, math.MaxInt32, math.MinInt32, 255, 256, -256, 1 << 40}
	for range 3000 {
		names := slices.Clone(edges)
		for range r.Intn(20) {
			names = append(names, 1000+r.Intn(1000000000))
		}
		slices.Sort(names)
		names = slices.Compact(names)
		r.Shuffle(len(names), func(i, j int) { names[i], names[j] = names[j], names[i] })
		var l []stuck.Wait
		near := 1 + r.Intn(len(names))
		for i := range names {
			if r.Intn(10) > 0 {
				l = append(l, stuck.Wait{Task: names[i], On: names[(i+r.Intn(near))%len(names)]})
			}
		}
		r.Shuffle(len(l), func(i, j int) { l[i], l[j] = l[j], l[i] })
		check(t, l)
	}
}

// line is n tasks, from 0 on, each of which waits for the next one, the last one for on.
func line(n, on int) []stuck.Wait {
	l := make([]stuck.Wait, n)
	for i := range l {
		l[i] = stuck.Wait{Task: i, On: i + 1}
	}
	l[n-1].On = on
	return l
}

func TestLongRows(t *testing.T) { // P27.2: it takes no time that grows by the square
	const n = 200000
	r := rand.New(rand.NewSource(2))
	for on, want := range map[int][2]int{n: {0, 0}, -5: {0, 0}, 0: {n, n}, n - 1: {1, n}, n / 2: {n / 2, n}} {
		forth := line(n, on)
		back, mixed := slices.Clone(forth), slices.Clone(forth)
		slices.Reverse(back)
		r.Shuffle(n, func(i, j int) { mixed[i], mixed[j] = mixed[j], mixed[i] })
		for _, l := range [][]stuck.Wait{forth, back, mixed} {
			a, b := stuck.Rounds(l), stuck.Stuck(l)
			if len(a) != want[0] || len(b) != want[1] || !slices.IsSorted(a) || !slices.IsSorted(b) {
				t.Error(on, len(a), len(b))
			}
			c := stuck.Chain(l, 0)
			if length := n + 1; len(c) != length && (on < 0 || on >= n) || len(c) != n && on >= 0 && on < n {
				t.Error(on, len(c))
			}
		}
	}
}

func TestNothingIsChangedOrKept(t *testing.T) { // rule 4
	l := []stuck.Wait{{3, 2}, {2, 3}, {1, 2}, {99, 99}}
	was := slices.Clone(l)
	part := l[:3]
	a, b, c := stuck.Rounds(part), stuck.Stuck(part), stuck.Chain(part, 1)
	for _, x := range [][]int{a, b, c} {
		clear(x)
	}
	if !slices.Equal(l, was) {
		t.Error("what was handed in is changed:", l)
	}
	if a, b, c := stuck.Rounds(part), stuck.Stuck(part), stuck.Chain(part, 1); !slices.Equal(a, []int{2, 3}) || !slices.Equal(b, []int{1, 2, 3}) || !slices.Equal(c, []int{1, 2, 3}) {
		t.Error(a, b, c)
	}
}

func TestTasksThatAreThereTwice(t *testing.T) { // nothing is promised of them but that the calls end
	for _, l := range [][]stuck.Wait{{{1, 2}, {1, 3}, {2, 1}}, {{1, 1}, {1, 2}}, {{1, 2}, {1, 1}}, slices.Repeat([]stuck.Wait{{0, 1}, {1, 0}}, 50)} {
		stuck.Rounds(l)
		stuck.Stuck(l)
		stuck.Chain(l, 1)
	}
}
