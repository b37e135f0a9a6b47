package chain_test

import (
	"iter"
	"math"
	"math/rand"
	"slices"
	"testing"

	"pinfold/api"
	"pinfold/chain"
)

// most is how many nodes, and how many rows, there are at most.
const most = 1 << 12

// strange are numbers that are no node's and no row's.
var strange = []int{-1, -2, most, most + 1, 1 << 40, math.MinInt, math.MaxInt}

// model is rows as plain lists, beside those that are to be like them.
type model struct {
	c     *chain.Lists
	nodes int
	rows  [][]int
}

func begin(nodes, lists int) *model {
	return &model{c: chain.New(nodes, lists), nodes: nodes, rows: make([][]int, lists)}
}

func (m *model) isNode(node int) bool { return node >= 0 && node < m.nodes }
func (m *model) isList(list int) bool { return list >= 0 && list < len(m.rows) }

// in is the row that has the node; -1, if none has.
func (m *model) in(node int) int {
	return slices.IndexFunc(m.rows, func(row []int) bool { return slices.Contains(row, node) })
}

// row is the row of that number; none, if there is none.
func (m *model) row(list int) []int {
	if !m.isList(list) {
		return nil
	}
	return m.rows[list]
}

func (m *model) push(t *testing.T, list, node int) {
	t.Helper()
	want := api.OK
	switch {
	case !m.isList(list) || !m.isNode(node):
		want = api.ErrArg
	case m.in(node) >= 0:
		want = api.ErrTwice
	default:
		m.rows[list] = append(m.rows[list], node)
	}
	if e := m.c.Push(list, node); e != want {
		t.Fatalf("%v: Push(%d, %d): %d, not %d", m.rows, list, node, e, want)
	}
}

func (m *model) pop(t *testing.T, list int) {
	t.Helper()
	want, is := 0, len(m.row(list)) > 0
	if is {
		want = m.rows[list][0]
		m.rows[list] = slices.Delete(m.rows[list], 0, 1)
	}
	if node, ok := m.c.Pop(list); node != want || ok != is {
		t.Fatalf("%v: Pop(%d): %d, %t", m.rows, list, node, ok)
	}
}

func (m *model) remove(t *testing.T, node int) {
	t.Helper()
	list, want := m.in(node), api.OK
	switch {
	case !m.isNode(node):
		list, want = 0, api.ErrArg
	case list < 0:
		list, want = 0, api.ErrNone
	default:
		m.rows[list] = slices.DeleteFunc(m.rows[list], func(n int) bool { return n == node })
	}
	if l, e := m.c.Remove(node); l != list || e != want {
		t.Fatalf("%v: Remove(%d): %d, %d", m.rows, node, l, e)
	}
}

// told is what a loop tells, front to back.
func told(seq iter.Seq[int]) []int {
	var l []int
	for node := range seq {
		l = append(l, node)
	}
	return l
}

// checkRow checks that the row of that number is the plain list, if there is one.
func (m *model) checkRow(t *testing.T, list int) { // P7.3, P7.5
	t.Helper()
	row := m.row(list)
	if n := m.c.Len(list); n != len(row) {
		t.Fatalf("%v: Len(%d): %d", m.rows, list, n)
	}
	want, is := 0, len(row) > 0
	if is {
		want = row[0]
	}
	if node, ok := m.c.First(list); node != want || ok != is {
		t.Fatalf("%v: First(%d): %d, %t", m.rows, list, node, ok)
	}
	if l := told(m.c.Each(list)); !slices.Equal(l, row) {
		t.Fatalf("%v: Each(%d): %v", m.rows, list, l)
	}
}

// checkNode checks where the node of that number is, if there is one.
func (m *model) checkNode(t *testing.T, node int) { // P7.3, P7.5
	t.Helper()
	list, next, isNext := m.in(node), 0, false
	isIn := list >= 0
	if isIn {
		behind := m.rows[list][slices.Index(m.rows[list], node)+1:]
		if isNext = len(behind) > 0; isNext {
			next = behind[0]
		}
	}
	if l, ok := m.c.In(node); l != max(list, 0) || ok != isIn {
		t.Fatalf("%v: In(%d): %d, %t", m.rows, node, l, ok)
	}
	if n, ok := m.c.Next(node); n != next || ok != isNext {
		t.Fatalf("%v: Next(%d): %d, %t", m.rows, node, n, ok)
	}
}

// check checks all rows and nodes, and numbers that are none's.
func (m *model) check(t *testing.T) {
	t.Helper()
	for list := range m.rows {
		m.checkRow(t, list)
	}
	for node := range m.nodes {
		m.checkNode(t, node)
	}
	for _, n := range append([]int{m.nodes, len(m.rows), m.nodes + len(m.rows)}, strange...) {
		if !m.isList(n) {
			m.checkRow(t, n)
		}
		if !m.isNode(n) {
			m.checkNode(t, n)
		}
	}
}

func TestExample(t *testing.T) { // P7.1, P7.2
	c := chain.New(4, 2)
	for _, w := range []struct {
		list, node int
		want       api.Errno
	}{{0, 3, api.OK}, {0, 1, api.OK}, {1, 3, api.ErrTwice}} {
		if e := c.Push(w.list, w.node); e != w.want {
			t.Error(w, e)
		}
	}
	if l, e := c.Remove(3); l != 0 || e != api.OK {
		t.Error(l, e)
	}
	if node, ok := c.Pop(0); node != 1 || !ok {
		t.Error(node, ok)
	}
}

func TestHowMany(t *testing.T) { // P7.1
	for _, w := range []struct{ asked, are int }{
		{0, 0}, {1, 1}, {2, 2}, {100, 100}, {most - 1, most - 1}, {most, most},
		{-1, 0}, {-most, 0}, {math.MinInt, 0}, {most + 1, most}, {1 << 40, most}, {math.MaxInt, most},
	} {
		m := begin(w.are, 2)
		m.c = chain.New(w.asked, 2)
		for _, node := range append([]int{0, w.are - 1, w.are, w.are + 1, w.are + 2}, strange...) {
			m.push(t, 1, node)
		}
		m.checkRow(t, 0)
		m.checkRow(t, 1)
		m = begin(2, w.are)
		m.c = chain.New(2, w.asked)
		for _, list := range append([]int{w.are - 1, w.are, w.are + 1, w.are + 2}, strange...) {
			m.push(t, list, 1)
		}
		for _, list := range append([]int{0, w.are - 1, w.are, w.are + 1}, strange...) {
			m.checkRow(t, list)
		}
	}
	for _, w := range []struct{ nodes, lists int }{{0, 0}, {0, 3}, {3, 0}, {1, 1}, {3, 3}} {
		begin(w.nodes, w.lists).check(t)
	}
}

func TestWrong(t *testing.T) { // P7.2: wrong rows and nodes, and which error comes first
	m := begin(5, 3)
	m.push(t, 2, 4)
	m.push(t, 2, 0)
	m.push(t, 1, 3)
	wrong := append([]int{5, 6, 7, 8}, strange...)
	for _, n := range wrong {
		m.push(t, 0, n)
		m.push(t, n, 4) // it is in a row: still there is no such row
		m.push(t, n, 2)
		m.push(t, n, n)
		m.remove(t, n)
		m.pop(t, n)
	}
	m.push(t, 3, 2)
	m.pop(t, 3)
	for list := range 3 {
		m.push(t, list, 4)
		m.push(t, list, 0)
	}
	m.remove(t, 1)
	m.pop(t, 0)
	m.check(t)
}

func TestInOnce(t *testing.T) { // P7.2, P7.5: what went out of a row may come into any
	m := begin(4, 2)
	for range 3 {
		for node := range 4 {
			m.push(t, 1, node)
			m.push(t, 0, node)
		}
		m.check(t)
		m.remove(t, 2)
		m.remove(t, 2)
		m.push(t, 0, 2)
		m.pop(t, 1)
		m.push(t, 1, 0) // behind all, now
		m.check(t)
		m.remove(t, 0)
		m.remove(t, 1)
		m.check(t)
		m.pop(t, 0)
		m.pop(t, 1)
		m.pop(t, 1)
		m.check(t)
	}
}

func TestEachAsBegun(t *testing.T) { // P7.3
	m := begin(6, 2)
	seq := m.c.Each(1)
	for _, node := range []int{3, 1, 4} {
		m.push(t, 1, node) // a loop isn't begun till now
	}
	if l := told(seq); !slices.Equal(l, []int{3, 1, 4}) {
		t.Error(l)
	}
	var l []int
	for node := range seq { // what is done within it changes the row, not the loop
		l = append(l, node)
		m.push(t, 1, 5)
		m.remove(t, 4)
		m.remove(t, node)
		m.push(t, 0, node)
	}
	if !slices.Equal(l, []int{3, 1, 4}) {
		t.Error(l)
	}
	m.check(t)
	if l := told(seq); !slices.Equal(l, []int{5}) { // and another loop is begun anew
		t.Error(l)
	}
	for n := 1; n <= 3; n++ {
		var l []int
		for node := range m.c.Each(0) {
			if l = append(l, node); len(l) == n {
				break
			}
		}
		if !slices.Equal(l, []int{3, 1, 4}[:n]) {
			t.Error(n, l)
		}
	}
	m.check(t)
}

func TestNil(t *testing.T) { // P7.4
	m := begin(0, 0)
	m.c = nil
	for _, n := range append([]int{0, 1}, strange...) {
		m.push(t, n, n)
		m.push(t, 0, n)
		m.push(t, n, 0)
		m.pop(t, n)
		m.remove(t, n)
		m.checkRow(t, n)
		m.checkNode(t, n)
	}
}

// do does the deed of that number on the rows and on the plain lists, and tells how many deeds there are.
func do(t *testing.T, m *model, deed int) int {
	lists, nodes := len(m.rows), m.nodes
	switch {
	case deed < lists*nodes:
		m.push(t, deed/nodes, deed%nodes)
	case deed < lists*nodes+nodes:
		m.remove(t, deed-lists*nodes)
	case deed < lists*nodes+nodes+lists:
		m.pop(t, deed-lists*nodes-nodes)
	}
	return lists*nodes + nodes + lists
}

func TestAllShortRowsOfDeeds(t *testing.T) { // P7.2, P7.3, P7.5
	const long = 5
	for _, w := range []struct{ nodes, lists int }{{3, 2}, {4, 1}, {1, 3}} {
		deeds := do(t, begin(w.nodes, w.lists), math.MaxInt)
		all := 1
		for range long {
			all *= deeds
		}
		for n := range all {
			m := begin(w.nodes, w.lists)
			for rest, i := n, 0; i < long; rest, i = rest/deeds, i+1 {
				do(t, m, rest%deeds)
			}
			m.check(t)
		}
	}
}

func TestDeedsAtRandom(t *testing.T) { // P7.2, P7.3, P7.5
	r := rand.New(rand.NewSource(7))
	for _, w := range []struct{ nodes, lists int }{{1, 1}, {5, 2}, {12, 3}, {40, 1}, {40, 40}, {3, 20}} {
		m := begin(w.nodes, w.lists)
		for range 1500 {
			switch n := r.Intn(10); {
			case n < 6:
				m.push(t, r.Intn(w.lists+2)-1, r.Intn(w.nodes+2)-1)
			case n < 8:
				m.remove(t, r.Intn(w.nodes+2)-1)
			default:
				m.pop(t, r.Intn(w.lists+2)-1)
			}
			m.check(t)
		}
	}
}

func TestGreatest(t *testing.T) { // P7.1, P7.5: as many nodes and rows as there may be
	c := chain.New(most, most)
	for node := range most {
		if e := c.Push(most-1, most-1-node); e != api.OK {
			t.Fatal(node, e)
		}
	}
	if c.Len(most-1) != most || c.Push(0, 0) != api.ErrTwice || c.Push(most, 0) != api.ErrArg {
		t.Fatal(c.Len(most - 1))
	}
	for node := range most {
		if list, ok := c.In(node); list != most-1 || !ok {
			t.Fatal(node, list, ok)
		}
		if node%2 == 1 {
			if list, e := c.Remove(node); list != most-1 || e != api.OK || c.Push(node, node) != api.OK {
				t.Fatal(node, list, e)
			}
		}
	}
	for node := most - 2; node >= 0; node -= 2 {
		if x, ok := c.Pop(most - 1); x != node || !ok {
			t.Fatal(node, x, ok)
		}
	}
	if x, ok := c.Pop(most - 1); x != most-1 || !ok || c.Len(most-1) != 0 {
		t.Error(x, ok)
	}
}

func TestListsAreApart(t *testing.T) { // what is done to one changes no other one
	a, b := begin(3, 2), begin(3, 2)
	a.push(t, 0, 1)
	b.check(t)
	b.push(t, 1, 1)
	b.push(t, 1, 0)
	a.check(t)
	a.pop(t, 0)
	a.check(t)
	b.check(t)
}
