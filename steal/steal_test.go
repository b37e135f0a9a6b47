package steal_test

import (
	"iter"
	"math"
	"math/rand"
	"slices"
	"testing"

	"pinfold/api"
	"pinfold/steal"
)

// How calls end.
const (
	taken = 1
	putIn = 2
	empty = 3
	full  = 4
	lost  = 5
)

// strange are numbers that are nobody's.
var strange = []int{-1, -2, 9, 10, 64, 1 << 40, math.MinInt, math.MaxInt}

// model is a row as the document's steps are read one behind the other, beside the row that is to be like it.
type model struct {
	d           *steal.Deque
	top, bottom int
	slots       map[int]int // by the numbers themselves, modulo room
	room        int
	thieves     int
	calls       map[int]func() (api.Stolen, bool) // the next step of each that is in a call
}

func begin(room, thieves int) *model {
	return &model{d: steal.New(room, thieves), slots: map[int]int{}, room: room, thieves: thieves, calls: map[int]func() (api.Stolen, bool){}}
}

// ended is the answer to a call's last step.
func ended(how, x int) api.Stolen { return api.Stolen{Done: true, How: how, X: x} }

// start lets who be in a call whose steps are those between which it yields.
func (m *model) start(who int, call func(next func()) api.Stolen) {
	next, stop := iter.Pull(func(yield func(api.Stolen) bool) {
		yield(call(func() { yield(api.Stolen{}) }))
	})
	m.calls[who] = func() (api.Stolen, bool) {
		s, ok := next()
		if s.Done {
			stop()
		}
		return s, ok
	}
}

func (m *model) pushing(x int) func(func()) api.Stolen {
	return func(next func()) api.Stolen {
		b := m.bottom
		next()
		if t := m.top; b-t >= m.room {
			return ended(full, 0)
		}
		next()
		m.slots[b%m.room] = x
		next()
		m.bottom = b + 1
		return ended(putIn, 0)
	}
}

func (m *model) popping(next func()) api.Stolen {
	b := m.bottom - 1
	m.bottom = b
	next()
	t, x, won := m.top, 0, false
	next()
	if t <= b {
		x = m.slots[b%m.room]
		if t < b {
			return ended(taken, x)
		}
		next()
		if won = m.top == t; won {
			m.top = t + 1
		}
		next()
	}
	m.bottom = b + 1
	if won {
		return ended(taken, x)
	}
	return ended(empty, 0)
}

func (m *model) stealing(next func()) api.Stolen {
	t := m.top
	next()
	if b := m.bottom; t >= b {
		return ended(empty, 0)
	}
	next()
	x := m.slots[t%m.room]
	next()
	if m.top != t {
		return ended(lost, 0)
	}
	m.top = t + 1
	return ended(taken, x)
}

func (m *model) is(who int) bool { return m.d != nil && who >= 0 && who <= m.thieves }

// begins checks the answer to the begin of who's call.
func (m *model) begins(t *testing.T, who int, e api.Errno, call func(func()) api.Stolen) {
	t.Helper()
	want := api.OK
	switch {
	case !m.is(who):
		want = api.ErrArg
	case m.calls[who] != nil:
		want = api.ErrState
	default:
		m.start(who, call)
	}
	if e != want {
		t.Fatalf("%d begins: %d, not %d", who, e, want)
	}
}

func (m *model) push(t *testing.T, x int) {
	t.Helper()
	m.begins(t, 0, m.d.Push(x), m.pushing(x))
}

func (m *model) pop(t *testing.T) {
	t.Helper()
	m.begins(t, 0, m.d.Pop(), m.popping)
}

func (m *model) steal(t *testing.T, thief int) {
	t.Helper()
	if thief == 0 { // the worker is no thief
		thief = -1
		if e := m.d.Steal(0); e != api.ErrArg {
			t.Fatal(e)
		}
	}
	m.begins(t, thief, m.d.Steal(thief), m.stealing)
}

func (m *model) step(t *testing.T, who int) api.Stolen {
	t.Helper()
	var want api.Stolen
	wantErr := api.OK
	switch {
	case !m.is(who):
		wantErr = api.ErrArg
	case m.calls[who] == nil:
		wantErr = api.ErrState
	default:
		if want, _ = m.calls[who](); want.Done {
			delete(m.calls, who)
		}
	}
	s, e := m.d.Step(who)
	if s != want || e != wantErr {
		t.Fatalf("top %d, bottom %d: Step(%d): %v, %d, not %v, %d", m.top, m.bottom, who, s, e, want, wantErr)
	}
	m.check(t)
	return s
}

// check checks how many there are, and who is in a call.
func (m *model) check(t *testing.T) { // P28.1, P28.3
	t.Helper()
	if n := m.d.Len(); n != max(m.bottom-m.top, 0) {
		t.Fatalf("top %d, bottom %d: Len %d", m.top, m.bottom, n)
	}
	for who := -2; who < 12; who++ {
		if m.d.Busy(who) != (m.calls[who] != nil) {
			t.Fatal(who, m.d.Busy(who))
		}
	}
}

// finish lets who's call come to its end, and is how many steps that took, and its answer.
func (m *model) finish(t *testing.T, who int) (int, api.Stolen) {
	t.Helper()
	for n := 1; ; n++ {
		if s := m.step(t, who); s.Done || n > 9 {
			return n, s
		}
	}
}

// ends checks how who's call ends, and with which step.
func (m *model) ends(t *testing.T, who, steps int, want api.Stolen) {
	t.Helper()
	if n, s := m.finish(t, who); n != steps || s != want {
		t.Fatalf("%d ends with step %d: %v, not %d: %v", who, n, s, steps, want)
	}
}

// filled is a row that has the numbers from 1 on, so many of them.
func filled(t *testing.T, room, thieves, n int) *model {
	t.Helper()
	m := begin(room, thieves)
	for x := range n {
		m.push(t, x+1)
		m.ends(t, 0, 4, ended(putIn, 0))
	}
	return m
}

func TestExample(t *testing.T) { // P28.1, P28.2: of a pop and a steal at once one takes it
	for turns := range 1 << 9 {
		m := begin(2, 1)
		m.push(t, 7)
		m.ends(t, 0, 4, ended(putIn, 0))
		m.steal(t, 1)
		m.pop(t)
		took := 0
		for rest := turns; m.d.Busy(0) || m.d.Busy(1); rest /= 2 {
			who := rest % 2
			if !m.d.Busy(who) {
				who = 1 - who
			}
			if s := m.step(t, who); s.How == taken && s.X == 7 {
				took++
			}
		}
		if took != 1 || m.d.Len() != 0 {
			t.Fatal(turns, took, m.d.Len())
		}
	}
}

func TestAlone(t *testing.T) { // P28.2: how each call ends, and with which step, if nobody else is in one
	m := begin(3, 2)
	m.pop(t)
	m.ends(t, 0, 3, ended(empty, 0))
	m.steal(t, 2)
	m.ends(t, 2, 2, ended(empty, 0))
	for _, x := range []int{0, math.MinInt, math.MaxInt} { // any number may be put in
		m.push(t, x)
		m.ends(t, 0, 4, ended(putIn, 0))
	}
	m.push(t, 9)
	m.ends(t, 0, 2, ended(full, 0))
	m.steal(t, 1)
	m.ends(t, 1, 4, ended(taken, 0))
	m.push(t, 5)
	m.ends(t, 0, 4, ended(putIn, 0))
	m.pop(t)
	m.ends(t, 0, 3, ended(taken, 5))
	m.pop(t)
	m.ends(t, 0, 3, ended(taken, math.MaxInt))
	m.pop(t)
	m.ends(t, 0, 5, ended(taken, math.MinInt)) // the last one must be won
	m.pop(t)
	m.ends(t, 0, 3, ended(empty, 0))
}

func TestAtOnce(t *testing.T) { // P28.2: what others' steps between do
	m := filled(t, 1, 2, 1)
	m.steal(t, 1)
	m.steal(t, 2)
	m.step(t, 1)
	m.step(t, 1)
	m.step(t, 1)
	m.ends(t, 2, 4, ended(taken, 1))
	m.push(t, 2) // where 1 was
	m.ends(t, 0, 4, ended(putIn, 0))
	m.ends(t, 1, 1, ended(lost, 0))

	m.steal(t, 1)
	m.step(t, 1)
	m.step(t, 1)
	m.pop(t)
	m.step(t, 0)
	m.step(t, 0)
	m.step(t, 0)
	m.ends(t, 1, 2, ended(taken, 2))
	m.ends(t, 0, 2, ended(empty, 0)) // a pop that loses is told as empty

	m.push(t, 3)
	m.ends(t, 0, 4, ended(putIn, 0))
	m.steal(t, 1)
	m.push(t, 4)
	m.step(t, 1)
	m.step(t, 1)
	m.step(t, 0)
	m.ends(t, 1, 2, ended(taken, 3))
	m.ends(t, 0, 3, ended(putIn, 0)) // its top was read behind that
	m.steal(t, 1)
	m.step(t, 1)
	m.pop(t)
	m.step(t, 0) // bottom is less already
	m.ends(t, 1, 1, ended(empty, 0))
	m.ends(t, 0, 4, ended(taken, 4))

	m.pop(t)
	m.step(t, 0)
	if m.d.Len() != 0 || m.bottom-m.top != -1 { // P28.3: 0 at least
		t.Error(m.d.Len(), m.bottom, m.top)
	}
	m.ends(t, 0, 2, ended(empty, 0))
}

func TestRoomAndThieves(t *testing.T) { // P28.1
	sizes := []struct{ asked, room int }{
		{1, 1}, {2, 2}, {63, 63}, {64, 64}, {0, 1}, {-1, 1}, {-64, 1}, {math.MinInt, 1}, {65, 64}, {1 << 40, 64}, {math.MaxInt, 64},
	}
	for _, w := range sizes {
		m := begin(w.room, 1)
		m.d = steal.New(w.asked, 1)
		for round := range 3 { // the slots are gone round in
			for x := range w.room {
				m.push(t, 100*round+x)
				m.ends(t, 0, 4, ended(putIn, 0))
			}
			m.push(t, 9)
			m.ends(t, 0, 2, ended(full, 0))
			for x := range w.room/2 + 1 {
				m.steal(t, 1)
				m.ends(t, 1, 4, ended(taken, 100*round+x))
			}
			for m.d.Len() > 0 {
				m.pop(t)
				m.finish(t, 0)
			}
		}
	}
	for _, w := range []struct{ asked, thieves int }{
		{0, 0}, {1, 1}, {7, 7}, {8, 8}, {-1, 0}, {math.MinInt, 0}, {9, 8}, {1 << 40, 8}, {math.MaxInt, 8},
	} {
		m := begin(2, w.thieves)
		m.d = steal.New(2, w.asked)
		for who := range 10 {
			m.steal(t, who)
			m.check(t)
		}
		m.pop(t)
		for who := range 10 {
			m.step(t, who)
		}
	}
}

func TestWrong(t *testing.T) { // P28.1, P28.2
	m := filled(t, 2, 2, 1)
	wrong := append([]int{0, 3, 4, 8}, strange...)
	for range 2 { // while nobody is in a call, and while all are
		for _, n := range wrong {
			m.steal(t, n)
			if n != 0 {
				m.step(t, n)
			}
			if n != 0 && m.d.Busy(n) {
				t.Error(n)
			}
		}
		m.steal(t, 1)
		m.steal(t, 2)
		m.pop(t)
		m.push(t, 5) // in a call already: nothing is changed
		m.pop(t)
		m.steal(t, 1)
		m.steal(t, 2)
		m.check(t)
	}
	m.ends(t, 1, 4, ended(taken, 1))
	m.ends(t, 0, 3, ended(empty, 0))
	m.ends(t, 2, 2, ended(empty, 0))
	for who := range 4 {
		m.step(t, who)
	}
	m.push(t, 6)
	m.step(t, 0)
	m.pop(t)
	m.push(t, 7)
	m.ends(t, 0, 3, ended(putIn, 0))
	m.pop(t)
	m.ends(t, 0, 5, ended(taken, 6))
}

func TestNil(t *testing.T) { // P28.3
	var m model
	for _, n := range append([]int{0, 1, 8}, strange...) {
		m.push(t, n)
		m.pop(t)
		m.steal(t, n)
		m.step(t, n)
		if m.d.Busy(n) {
			t.Error(n)
		}
	}
	m.check(t)
}

func TestStepsAtRandom(t *testing.T) { // P28.2, P28.3: as the document's steps
	r := rand.New(rand.NewSource(28))
	for _, room := range []int{1, 2, 3, 5, 64} {
		for _, thieves := range []int{0, 1, 2, 8} {
			m := begin(room, thieves)
			for x := range 8000 {
				switch n := r.Intn(12); {
				case n == 0:
					m.push(t, x)
				case n == 1 && r.Intn(room+1) < m.d.Len()+1:
					m.pop(t)
				case n < 4:
					m.steal(t, r.Intn(thieves+2))
				default:
					m.step(t, r.Intn(thieves+2))
				}
			}
		}
	}
}

// party is who does calls, one behind the other: a number above 0 is pushed, one below 0 is a call to take.
type party struct {
	who   int
	calls []int
}

// goesOn lets the party do its next step, or begin the next call and do that one's first; false: it has no more.
func (p *party) goesOn(d *steal.Deque) (api.Stolen, bool) {
	if !d.Busy(p.who) {
		switch {
		case len(p.calls) == 0:
			return api.Stolen{}, false
		case p.who > 0:
			d.Steal(p.who)
		case p.calls[0] > 0:
			d.Push(p.calls[0])
		default:
			d.Pop()
		}
	}
	s, _ := d.Step(p.who)
	return s, true
}

// book is what was put in, and what was taken, by the calls that have ended.
type book struct {
	in, out []int
}

// note takes down how the party's call ended.
func (b *book) note(p *party, s api.Stolen) {
	if !s.Done {
		return
	}
	switch s.How {
	case putIn:
		b.in = append(b.in, p.calls[0])
	case taken:
		b.out = append(b.out, s.X)
	}
	p.calls = p.calls[1:]
}

// closes checks, when nobody is in a call any more, that all that was put in was taken once, or is there and comes out in order, by steals or by pops.
func (b *book) closes(t *testing.T, d *steal.Deque, bySteals bool) { // P28.4, P28.5
	t.Helper()
	var left []int
	for _, x := range b.in {
		if !slices.Contains(b.out, x) {
			left = append(left, x)
		}
	}
	if len(b.in) != len(b.out)+len(left) || d.Len() != len(left) { // as no two numbers are one, this tells of twos and of strange ones
		t.Fatal("in", b.in, "out", b.out, "Len", d.Len())
	}
	p := &party{who: 0}
	if bySteals {
		p.who = 1
	} else {
		slices.Reverse(left)
	}
	var rest []int
	for range left {
		p.calls = []int{-1}
		for s := (api.Stolen{}); !s.Done; {
			if s, _ = p.goesOn(d); s.How == taken {
				rest = append(rest, s.X)
			}
		}
	}
	if !slices.Equal(rest, left) || d.Len() != 0 {
		t.Fatal("left", left, "came", rest, d.Len())
	}
}

// story is a row with some in it, and what parties do with it.
type story struct {
	room, filled int
	worker       []int
	thieves      []int // how often each one steals
}

// begun is the row, who has something to do with it, and what was put in already.
func (s story) begun() (*steal.Deque, []*party, *book) {
	d, b := steal.New(s.room, max(len(s.thieves), 1)), &book{}
	first := &party{who: 0}
	for x := range s.filled {
		first.calls = []int{100 + x}
		for len(first.calls) > 0 {
			last, _ := first.goesOn(d)
			b.note(first, last)
		}
	}
	l := []*party{{0, s.worker}}
	for i, n := range s.thieves {
		l = append(l, &party{i + 1, slices.Repeat([]int{-1}, n)})
	}
	l = slices.DeleteFunc(l, func(p *party) bool { return len(p.calls) == 0 })
	return d, l, b
}

// told runs the story, in which the turn's choice is which of those that may go on does: it is given of how many.
func (s story) told(t *testing.T, bySteals bool, choice func(of int) int) {
	t.Helper()
	d, l, b := s.begun()
	for len(l) > 0 {
		i := choice(len(l))
		last, _ := l[i].goesOn(d)
		b.note(l[i], last)
		if len(l[i].calls) == 0 {
			l = slices.Delete(l, i, i+1)
		}
	}
	b.closes(t, d, bySteals)
}

// everyWay runs the story in every order of steps that there is, and tells how many these are.
func (s story) everyWay(t *testing.T, bySteals bool) int {
	t.Helper()
	var path, of []int // the choices, and how many there were each time
	for ways := 1; ; ways++ {
		turn := 0
		s.told(t, bySteals, func(n int) int {
			if turn == len(path) {
				path, of = append(path, 0), append(of, n)
			}
			turn++
			return path[turn-1]
		})
		last := len(path) - 1
		for last >= 0 && path[last] == of[last]-1 {
			last--
		}
		if last < 0 {
			return ways
		}
		path[last]++
		path, of = path[:last+1], of[:last+1]
	}
}

func TestEveryOrderOfSteps(t *testing.T) { // P28.4, P28.5
	for i, s := range []story{
		{1, 0, []int{1, -1, 2}, []int{2}},
		{1, 1, []int{1, 2, -1}, []int{2}},
		{2, 1, []int{-1, -1, 1}, []int{2}},
		{2, 1, []int{1, -1}, []int{2}},
		{1, 1, []int{1}, []int{1, 1}},
		{3, 2, []int{-1}, []int{1, 1}},
		{2, 2, []int{-1, 1}, []int{2}},
		{2, 2, nil, []int{1, 1, 1}},
		{3, 3, []int{-1, -1}, []int{2}},
	} {
		if ways := s.everyWay(t, i%2 == 0); ways < 1000 {
			t.Error(s, "in few orders:", ways)
		}
	}
}

func TestLongStories(t *testing.T) { // P28.4, P28.5
	r := rand.New(rand.NewSource(29))
	for i := range 3000 {
		s := story{room: 1 + r.Intn(6), thieves: make([]int, 1+r.Intn(8))}
		s.filled = r.Intn(s.room + 1)
		for x := range r.Intn(40) {
			s.worker = append(s.worker, []int{x + 1, -1}[r.Intn(2)])
		}
		for thief := range s.thieves {
			s.thieves[thief] = r.Intn(12)
		}
		s.told(t, i%2 == 0, r.Intn)
	}
}

func TestDequesAreApart(t *testing.T) { // what is done to one changes no other one
	a, b := filled(t, 2, 1, 1), filled(t, 2, 1, 2)
	a.steal(t, 1)
	b.check(t)
	b.pop(t)
	a.ends(t, 1, 4, ended(taken, 1))
	b.ends(t, 0, 3, ended(taken, 2))
	a.check(t)
}
