package mcs_test

import (
	"math"
	"math/rand"
	"slices"
	"testing"

	"pinfold/api"
	"pinfold/mcs"
)

// The states of parties.
const (
	outside = 0
	taking  = 1
	inside  = 2
	giving  = 3
)

// strange are numbers that are no party's.
var strange = []int{-1, -2, 16, 17, 64, 1 << 40, math.MinInt, math.MaxInt}

// plain is a lock by a second reading of the chapter: its words, and of each party its state, its next step as the chapter numbers them, and what it knows.
type plain struct {
	tail             int
	next             [16]int
	waits            [16]bool
	state, at, knows [16]int
}

func nobodys() plain {
	p := plain{tail: -1}
	for i := range p.next {
		p.next[i] = -1
	}
	return p
}

// steps are those of the chapter, by the state: each tells which one is next, 0 if the state is another one then.
func steps(state int) []func(p *plain, who int) int {
	if state == giving {
		return []func(p *plain, who int) int{outOne, outTwo, outThree}
	}
	return []func(p *plain, who int) int{
		func(p *plain, who int) int { p.next[who] = -1; return 2 },
		func(p *plain, who int) int { p.waits[who] = true; return 3 },
		inThree,
		func(p *plain, who int) int { p.next[p.knows[who]] = who; return 5 },
		inFive,
	}
}

func inThree(p *plain, who int) int {
	p.knows[who] = p.tail
	p.tail = who
	if p.knows[who] == -1 {
		return 0
	}
	return 4
}

func inFive(p *plain, who int) int {
	if p.waits[who] {
		return 5
	}
	return 0
}

func outOne(p *plain, who int) int {
	p.knows[who] = p.next[who]
	if p.knows[who] != -1 {
		return 3
	}
	return 2
}

func outTwo(p *plain, who int) int {
	if p.tail != who {
		return 1
	}
	p.tail = -1
	return 0
}

func outThree(p *plain, who int) int {
	p.waits[p.knows[who]] = false
	return 0
}

// model is a plain lock, beside the one that is to be like it.
type model struct {
	l       *mcs.Lock
	parties int
	plain
	came []int // who did the third step of taking, and isn't inside yet
}

func begin(parties int) *model {
	return &model{l: mcs.New(parties), parties: parties, plain: nobodys()}
}

func (m *model) is(who int) bool { return who >= 0 && who < m.parties }

// begins checks the answer to the begin of a call that goes from one state to another one.
func (m *model) begins(t *testing.T, who, from, to int, e api.Errno) {
	t.Helper()
	want := api.OK
	switch {
	case !m.is(who):
		want = api.ErrArg
	case m.state[who] != from:
		want = api.ErrState
	default:
		m.state[who], m.at[who], m.knows[who] = to, 1, 0
	}
	if e != want {
		t.Fatalf("%v: %d from %d to %d: %d, not %d", m.plain, who, from, to, e, want)
	}
}

func (m *model) take(t *testing.T, who int) {
	t.Helper()
	m.begins(t, who, outside, taking, m.l.Take(who))
}

func (m *model) give(t *testing.T, who int) {
	t.Helper()
	m.begins(t, who, inside, giving, m.l.Give(who))
}

func (m *model) step(t *testing.T, who int) bool {
	t.Helper()
	changed, want := false, api.OK
	was := m.plain
	switch {
	case !m.is(who):
		want = api.ErrArg
	case m.state[who] != taking && m.state[who] != giving:
		want = api.ErrState
	default:
		changed = m.does(t, who)
	}
	if got, e := m.l.Step(who); got != changed || e != want {
		t.Fatalf("%v: Step(%d): %t, %d, not %t, %d", was, who, got, e, changed, want)
	}
	return changed
}

// does lets the plain party do its step, tells whether its state changes, and checks in which order they come inside.
func (m *model) does(t *testing.T, who int) bool { // P29.5
	t.Helper()
	state, at := m.state[who], m.at[who]
	if state == taking && at == 3 {
		m.came = append(m.came, who)
	}
	m.at[who] = steps(state)[at-1](&m.plain, who)
	if m.at[who] > 0 {
		return false
	}
	m.state[who], m.knows[who] = (state+1)%4, 0
	if state == taking {
		if m.came[0] != who {
			t.Fatalf("%d came inside ahead of %v", who, m.came)
		}
		m.came = m.came[1:]
	}
	return true
}

// goesOn lets a party do what it can do next.
func (m *model) goesOn(t *testing.T, who int) {
	t.Helper()
	switch m.state[who] {
	case outside:
		m.take(t, who)
	case inside:
		m.give(t, who)
	default:
		m.step(t, who)
	}
	m.check(t)
}

// check checks that the lock's parties are where the plain ones are, and that one at most has it.
func (m *model) check(t *testing.T) { // P29.1, P29.3, P29.4
	t.Helper()
	var have []int
	for who := range m.parties {
		s := m.l.State(who)
		if s != m.state[who] {
			t.Fatalf("%v: State(%d): %d", m.plain, who, s)
		}
		if s == inside || s == giving {
			have = append(have, who)
		}
	}
	want := 0
	if len(have) > 0 {
		want = have[0]
	}
	if who, ok := m.l.Holder(); who != want || ok != (len(have) > 0) {
		t.Fatalf("%v: Holder: %d, %t", have, who, ok)
	}
	if len(have) > 1 {
		t.Fatal("more than one have it:", have)
	}
}

// wrong checks all that a party, or a number that is none's, may not do now.
func (m *model) wrong(t *testing.T, who int) { // P29.2
	t.Helper()
	state := -1
	if m.is(who) {
		state = m.state[who]
	}
	if state != outside {
		m.take(t, who)
	}
	if state != inside {
		m.give(t, who)
	}
	if state != taking && state != giving {
		m.step(t, who)
	}
	m.check(t)
}

// settles lets all that are inside give, and all go on, and checks that each that takes comes inside.
func (m *model) settles(t *testing.T) { // P29.6
	t.Helper()
	waits := 0
	for who := range m.parties {
		if m.state[who] == taking {
			waits++
		}
	}
	for round := 0; waits > 0; round++ {
		if round > 20*m.parties {
			t.Fatalf("%v: %d don't come inside", m.plain, waits)
		}
		for who := range m.parties {
			was := m.state[who]
			if was != outside {
				m.goesOn(t, who)
			}
			if was == taking && m.state[who] == inside {
				waits--
			}
		}
	}
}

// ends checks how many steps a party does till its state is another one, and which one.
func (m *model) ends(t *testing.T, who, steps, state int) {
	t.Helper()
	for i := range steps {
		if changed := m.step(t, who); changed != (i == steps-1) {
			t.Fatalf("step %d of %d: %t", i+1, who, changed)
		}
		m.check(t)
	}
	if s := m.l.State(who); s != state {
		t.Fatalf("State(%d): %d, not %d", who, s, state)
	}
}

func TestExample(t *testing.T) { // P29.1, P29.2
	m := begin(2)
	m.take(t, 0)
	m.ends(t, 0, 3, inside)
	m.take(t, 1)
	for range 5 {
		if m.step(t, 1) {
			t.Error("inside, while 0 is")
		}
	}
	if s := m.l.State(1); s != 1 {
		t.Error(s)
	}
	m.give(t, 0)
	m.ends(t, 0, 2, outside)
	if changed, e := m.l.Step(0); changed || e != api.ErrState { // it has no third step
		t.Error(changed, e)
	}
	m.ends(t, 1, 1, inside)
}

func TestAlone(t *testing.T) { // P29.2, P29.3
	m := begin(3)
	for _, who := range []int{2, 0, 2, 2, 1} {
		m.check(t)
		m.take(t, who)
		m.check(t)
		m.ends(t, who, 3, inside)
		if n, ok := m.l.Holder(); n != who || !ok {
			t.Error(n, ok)
		}
		m.give(t, who)
		if n, ok := m.l.Holder(); n != who || !ok { // who gives has it still
			t.Error(n, ok)
		}
		m.ends(t, who, 2, outside)
		if n, ok := m.l.Holder(); n != 0 || ok {
			t.Error(n, ok)
		}
	}
}

func TestAtOnce(t *testing.T) { // P29.2: what others' steps between do
	m := begin(3)
	for who := range 3 {
		m.take(t, who)
		m.step(t, who)
	}
	m.ends(t, 1, 2, inside) // whose third step comes first, whatever came ahead of it
	m.step(t, 0)
	m.step(t, 0)
	m.give(t, 1)
	for range 4 { // 0 is on its way: tail is it, but it isn't next of 1 yet
		m.step(t, 1)
		m.step(t, 1)
	}
	m.step(t, 1)
	m.step(t, 0)
	m.step(t, 0)
	m.step(t, 0)             // it waits still
	m.ends(t, 1, 3, outside) // its second step, then the first one again, then the third
	m.step(t, 2)
	m.step(t, 2)
	m.ends(t, 0, 1, inside)
	m.give(t, 0)
	m.step(t, 0)
	m.step(t, 2) // 2 is next of 0, between two of its steps
	m.step(t, 2)
	m.ends(t, 0, 3, outside)
	m.ends(t, 2, 1, inside)
	m.give(t, 2)
	m.step(t, 2)
	m.take(t, 0)
	m.step(t, 0)
	m.step(t, 0)
	m.ends(t, 2, 1, outside)
	m.ends(t, 0, 1, inside) // as tail was nobody again
	m.give(t, 0)
	m.ends(t, 0, 2, outside)
}

func TestAhead(t *testing.T) { // P29.2: the lock was given to a party ahead of its fifth step
	m := begin(2)
	m.take(t, 1)
	m.ends(t, 1, 3, inside)
	m.take(t, 0)
	for range 4 {
		m.step(t, 0)
	}
	m.give(t, 1)
	m.ends(t, 1, 2, outside)
	if n, ok := m.l.Holder(); n != 0 || ok { // nobody, for now
		t.Error(n, ok)
	}
	m.take(t, 1) // again, and behind it
	for range 5 {
		m.step(t, 1)
	}
	m.ends(t, 0, 1, inside)
	m.step(t, 1)
	m.give(t, 0)
	m.ends(t, 0, 2, outside)
	m.ends(t, 1, 1, inside)
}

func TestParties(t *testing.T) { // P29.1
	for n, want := range map[int]int{
		1: 1, 2: 2, 3: 3, 15: 15, 16: 16, 17: 16, 1 << 40: 16, math.MaxInt: 16, 0: 1, -1: 1, -16: 1, math.MinInt: 1,
	} {
		m := begin(want)
		m.l = mcs.New(n)
		m.check(t)
		for who := range 18 {
			s := m.l.State(who)
			if m.is(who) && s != outside || !m.is(who) && s != -1 {
				t.Error(n, who, s)
			}
			m.take(t, who)
			for range 6 {
				m.step(t, who)
			}
			m.check(t)
		}
		for who := range 18 {
			m.give(t, who)
			for range 3 {
				m.step(t, who)
				m.step(t, who+1)
			}
			m.check(t)
		}
	}
}

func TestWrong(t *testing.T) { // P29.1, P29.2
	for _, parties := range []int{1, 2, 15} {
		m := begin(parties)
		for range 40 {
			for _, who := range append(strange, parties, parties+1) {
				m.wrong(t, who)
				if s := m.l.State(who); s != -1 {
					t.Error(who, s)
				}
			}
			for who := range parties {
				m.wrong(t, who)
				m.goesOn(t, who)
			}
		}
	}
}

func TestNil(t *testing.T) { // P29.3
	var m model
	for _, who := range append(strange, 0, 1, 15) {
		m.take(t, who)
		m.give(t, who)
		m.step(t, who)
		if s := m.l.State(who); s != -1 {
			t.Error(who, s)
		}
	}
	m.check(t)
}

// again is a new lock, with which those of the row went on in turn.
func again(t *testing.T, parties int, row []byte) *model {
	t.Helper()
	m := begin(parties)
	for _, who := range row {
		m.goesOn(t, int(who))
	}
	return m
}

// search lets each party go on from everything that so many parties can come to, and answers how many these are.
func search(t *testing.T, parties int) int {
	t.Helper()
	seen := map[plain]bool{nobodys(): true}
	for rows := [][]byte{nil}; len(rows) > 0; rows = rows[1:] {
		m := again(t, parties, rows[0])
		for who := range parties {
			m.wrong(t, who)
		}
		m.settles(t)
		for who := range parties {
			row := append(slices.Clone(rows[0]), byte(who))
			m := again(t, parties, row)
			if !seen[m.plain] {
				seen[m.plain] = true
				rows = append(rows, row)
			}
		}
	}
	return len(seen)
}

func TestEveryOrderOfSteps(t *testing.T) { // P29.2 to P29.6
	for parties, least := range map[int]int{1: 10, 2: 200, 3: 5000} {
		if n := search(t, parties); n < least {
			t.Error(parties, "come to so few:", n)
		}
	}
}

func TestLongStories(t *testing.T) { // P29.2 to P29.6
	for seed := range int64(400) {
		r := rand.New(rand.NewSource(seed))
		m := begin(1 + r.Intn(16))
		for range r.Intn(1500) {
			who := r.Intn(m.parties)
			if r.Intn(3) == 0 { // the least go on more often
				who = r.Intn(1 + who)
			}
			m.goesOn(t, who)
			if r.Intn(20) == 0 {
				m.wrong(t, r.Intn(m.parties+2))
			}
		}
		m.settles(t)
	}
}

func TestLocksAreApart(t *testing.T) { // what is done to one changes no other one
	a, b := begin(2), begin(2)
	a.take(t, 0)
	b.check(t)
	a.ends(t, 0, 3, inside)
	b.take(t, 1)
	b.ends(t, 1, 3, inside)
	a.check(t)
	a.give(t, 0)
	a.ends(t, 0, 2, outside)
	b.check(t)
}
