package bubble_test

import (
	"math"
	"math/rand"
	"slices"
	"testing"

	"pinfold/api"
	"pinfold/bubble"
)

// strange are numbers that are no bubble's.
var strange = []int{-1, -2, 32, 33, 64, 1 << 10, 1 << 32, 1 << 40, math.MinInt, math.MaxInt}

// all is the set of all workers.
func all() api.Set {
	var s api.Set
	for i := range s {
		s[i] = math.MaxUint64
	}
	return s
}

// some are sets of workers, all but the last few with many that others have too.
func some() []api.Set {
	return []api.Set{all(), {7, 15: 1 << 63}, {6, 3: 5}, {math.MaxUint64}, {2}, {1}, {15: 1 << 63}, {0, 1}}
}

// model is bubbles as a plain list, beside the forest that is to be like it.
type model struct {
	f *bubble.Forest
	l []api.Bubble
}

func begin() *model { return &model{f: bubble.New()} }

func (m *model) has(b int) bool { return b >= 0 && b < len(m.l) }

// lies tells whether b is in, or lies in it, by a second reading of the chapter.
func (m *model) lies(b, in int) bool {
	return m.has(b) && m.has(in) && (b == in || m.lies(m.l[b].Up, in))
}

func (m *model) make(t *testing.T, up int, mask api.Set) {
	t.Helper()
	b, want := 0, api.OK
	switch {
	case up != -1 && !m.has(up):
		want = api.ErrArg
	case mask == (api.Set{}):
		want = api.ErrMask
	case up != -1 && m.l[up].State != 1:
		want = api.ErrState
	case len(m.l) == 32 || m.f == nil:
		want = api.ErrFull
	default:
		b = len(m.l)
		m.l = append(m.l, api.Bubble{Up: up, Mask: mask, State: 1, Home: 0})
	}
	if got, e := m.f.Make(up, mask); got != b || e != want {
		t.Fatalf("%v: Make(%d, %v): %d, %d, not %d, %d", m.l, up, mask, got, e, b, want)
	}
}

func (m *model) seal(t *testing.T, b int) {
	t.Helper()
	want := api.OK
	switch {
	case !m.has(b):
		want = api.ErrNone
	case m.l[b].State != 1:
		want = api.ErrState
	default:
		m.l[b].State = 2
	}
	if e := m.f.Seal(b); e != want {
		t.Fatalf("%v: Seal(%d): %d, not %d", m.l, b, e, want)
	}
}

func (m *model) place(t *testing.T, b, home int) {
	t.Helper()
	want := api.OK
	switch {
	case !m.has(b):
		want = api.ErrNone
	case m.l[b].State != 2 && m.l[b].State != 3, m.l[b].Up != -1 && m.l[m.l[b].Up].State != 4:
		want = api.ErrState
	default:
		m.l[b].State, m.l[b].Home = 3, home
	}
	if e := m.f.Place(b, home); e != want {
		t.Fatalf("%v: Place(%d, %d): %d, not %d", m.l, b, home, e, want)
	}
}

func (m *model) burst(t *testing.T, b int) {
	t.Helper()
	want, told := api.OK, []int(nil)
	switch {
	case !m.has(b):
		want = api.ErrNone
	case m.l[b].State != 3:
		want = api.ErrState
	default:
		m.l[b].State = 4
		told = []int{b}
		for n, x := range m.l {
			if x.Up == b && x.State == 2 {
				m.l[n].State, m.l[n].Home = 3, m.l[b].Home
				told = append(told, n)
			}
		}
	}
	if l, e := m.f.Burst(b); !slices.Equal(l, told) || e != want {
		t.Fatalf("%v: Burst(%d): %v, %d, not %v, %d", m.l, b, l, e, told, want)
	}
}

func (m *model) regen(t *testing.T, b, home int) {
	t.Helper()
	want, told := api.OK, []int(nil)
	switch {
	case !m.has(b):
		want = api.ErrNone
	case m.l[b].State != 4:
		want = api.ErrState
	default:
		m.l[b].State, m.l[b].Home = 3, home
		told = []int{b}
		for n, x := range m.l {
			if n != b && m.lies(n, b) && x.State >= 3 {
				m.l[n].State = 2
				told = append(told, n)
			}
		}
	}
	if l, e := m.f.Regen(b, home); !slices.Equal(l, told) || e != want {
		t.Fatalf("%v: Regen(%d, %d): %v, %d, not %v, %d", m.l, b, home, l, e, told, want)
	}
}

// checkOne checks what is told of the number b, be it a bubble's or not.
func (m *model) checkOne(t *testing.T, b int) { // P13.2
	t.Helper()
	want, mask, free := api.Bubble{}, all(), b == -1 || m.has(b)
	if m.has(b) {
		want = m.l[b]
	}
	for n, x := range m.l {
		if m.lies(b, n) {
			free = free && x.State == 4
			for i := range mask {
				mask[i] &= x.Mask[i]
			}
		}
	}
	if x, ok := m.f.Get(b); x != want || ok != m.has(b) {
		t.Fatalf("%v: Get(%d): %v, %t", m.l, b, x, ok)
	}
	if got := m.f.Mask(b); got != mask {
		t.Fatalf("%v: Mask(%d): %v, not %v", m.l, b, got, mask)
	}
	if got := m.f.Free(b); got != free {
		t.Fatalf("%v: Free(%d): %t", m.l, b, got)
	}
}

// check checks that the forest is the plain list, in all that changes nothing.
func (m *model) check(t *testing.T) { // P13.2
	t.Helper()
	if m.f.Len() != len(m.l) {
		t.Fatalf("Len %d, not %d", m.f.Len(), len(m.l))
	}
	numbers := append([]int{len(m.l), len(m.l) + 1}, strange...)
	for b := range m.l {
		numbers = append(numbers, b)
	}
	for _, b := range numbers {
		m.checkOne(t, b)
		for _, in := range numbers {
			if got := m.f.Inside(b, in); got != m.lies(b, in) {
				t.Fatalf("%v: Inside(%d, %d): %t", m.l, b, in, got)
			}
		}
	}
	m.follows(t)
}

// follows checks what always holds of bubbles and those in which they lie.
func (m *model) follows(t *testing.T) { // P13.3
	t.Helper()
	for b := range m.f.Len() {
		x, _ := m.f.Get(b)
		up, ok := m.f.Get(x.Up)
		if mask, round := m.f.Mask(b), m.f.Mask(x.Up); mask != and(mask, round) {
			t.Fatalf("Mask(%d) %v isn't within Mask(%d) %v", b, mask, x.Up, round)
		}
		if ok && up.State != api.Burst && x.State >= api.Placed {
			t.Fatalf("%d is in the state %d within %d, which is in %d", b, x.State, x.Up, up.State)
		}
	}
}

func and(a, b api.Set) api.Set {
	for i := range a {
		a[i] &= b[i]
	}
	return a
}

func TestExample(t *testing.T) { // P13.1, P13.2
	f := bubble.New()
	for want, up := range []int{-1, 0} {
		if b, e := f.Make(up, []api.Set{{3}, {6}}[want]); b != want || e != api.OK {
			t.Error(b, e)
		}
	}
	if s := f.Mask(1); s != (api.Set{2}) {
		t.Error(s)
	}
	for i, e := range []api.Errno{f.Seal(1), f.Seal(0), f.Place(0, 3)} {
		if e != api.OK {
			t.Error(i, e)
		}
	}
	if l, e := f.Burst(0); !slices.Equal(l, []int{0, 1}) || e != api.OK {
		t.Error(l, e)
	}
	if x, ok := f.Get(1); !ok || x != (api.Bubble{Up: 0, Mask: api.Set{6}, State: api.Placed, Home: 3}) {
		t.Error(x, ok)
	}
}

func TestMake(t *testing.T) { // P13.1
	m := begin()
	for _, up := range append(strange, 0, 1, 31) {
		m.make(t, up, api.Set{}) // ErrArg ahead of ErrMask
		if up != -1 {
			m.make(t, up, all())
		}
	}
	m.check(t) // none of these took a number
	for i, mask := range some() {
		m.make(t, i-1, mask) // each in the one ahead of it
		m.make(t, i, api.Set{})
		m.make(t, i+1, mask) // there is none yet
	}
	m.check(t)
	m.seal(t, 0)
	m.make(t, 0, all())
	m.make(t, 0, api.Set{}) // ErrMask ahead of ErrState
	m.make(t, 1, all())     // what is open within one that isn't
	m.place(t, 0, 5)
	m.make(t, 0, all())
	m.burst(t, 0)
	m.make(t, 0, all())
	m.regen(t, 0, 5)
	m.make(t, 0, all())
	m.make(t, -1, all())
	m.check(t)
}

func TestFull(t *testing.T) { // P13.1
	m := begin()
	for i := range 32 {
		m.make(t, i/3-1, some()[i%8])
	}
	if len(m.l) != api.MaxBubbles {
		t.Fatal(len(m.l))
	}
	m.make(t, -1, all())
	m.make(t, 31, all())
	m.seal(t, 31)
	m.make(t, 31, all())     // ErrState ahead of ErrFull
	m.make(t, -1, api.Set{}) // ErrMask too
	m.make(t, 32, all())     // and ErrArg
	m.check(t)
	m.seal(t, 0)
	m.place(t, 0, 1)
	m.burst(t, 0)
	m.make(t, -1, all()) // what has burst keeps its number
	m.check(t)
}

func TestNone(t *testing.T) { // P13.1
	m := begin()
	for range 3 {
		for _, b := range append(strange, len(m.l), len(m.l)+1) {
			m.seal(t, b)
			m.place(t, b, 0)
			m.burst(t, b)
			m.regen(t, b, 0)
		}
		m.check(t)
		m.make(t, -1, all())
	}
}

func TestHome(t *testing.T) { // P13.1: any number is a home
	homes := append(strange, 0, 1, 3, 2047, 2048)
	m := begin()
	for i := range 4 {
		m.make(t, i-1, all())
	}
	m.make(t, 0, all()) // it stays open
	for b := range 4 {
		m.seal(t, b)
	}
	for _, home := range homes {
		m.place(t, 0, home)
		m.place(t, 0, home)
		m.check(t)
		m.burst(t, 0)
		m.check(t)
		m.place(t, 1, home-7) // from where it was placed by that
		m.burst(t, 1)
		m.burst(t, 2)
		m.check(t)
		m.regen(t, 1, home-9) // what lies in it keeps its home
		m.check(t)
		m.burst(t, 1)
		m.regen(t, 0, home-8)
		m.check(t)
	}
}

// deed is one with bubbles; home tells those that have one apart.
type deed func(m *model, t *testing.T, home int)

// deeds are all with those of the numbers below n.
func deeds(n int) []deed {
	var l []deed
	for b := range n {
		l = append(l,
			func(m *model, t *testing.T, home int) { m.seal(t, b) },
			func(m *model, t *testing.T, home int) { m.place(t, b, home) },
			func(m *model, t *testing.T, home int) { m.burst(t, b) },
			func(m *model, t *testing.T, home int) { m.regen(t, b, home) },
		)
	}
	return l
}

// again is a new forest of bubbles in these ones, with which all the deeds of the row are done.
func again(t *testing.T, ups []int, all []deed, row []int) *model {
	t.Helper()
	m := begin()
	for b, up := range ups {
		m.make(t, up, some()[b])
	}
	for i, d := range row {
		all[d](m, t, i+1)
	}
	return m
}

// states are those of the bubbles.
func (m *model) states() [4]int {
	var s [4]int
	for b, x := range m.l {
		s[b] = x.State
	}
	return s
}

// search does each deed in each row of states that bubbles in these ones can come to, and answers how many rows there are.
func search(t *testing.T, ups []int) int {
	t.Helper()
	all := deeds(len(ups))
	seen := map[[4]int]bool{again(t, ups, all, nil).states(): true}
	for rows := [][]int{nil}; len(rows) > 0; rows = rows[1:] {
		for up := -1; up < len(ups); up++ {
			m := again(t, ups, all, rows[0])
			m.make(t, up, some()[1])
			m.check(t)
		}
		for d := range all {
			row := append(slices.Clone(rows[0]), d)
			m := again(t, ups, all, row)
			m.check(t)
			if s := m.states(); !seen[s] {
				seen[s] = true
				rows = append(rows, row)
			}
		}
	}
	return len(seen)
}

func TestStates(t *testing.T) { // P13.1, P13.2, P13.3: all forests of four bubbles, in all states
	if n := search(t, []int{-1}); n != 4 {
		t.Error(n)
	}
	if n := search(t, []int{-1, 0}); n != 10 { // open or sealed in one that hasn't burst, in any state in one that has
		t.Error(n)
	}
	for i := range 24 {
		search(t, []int{-1, i%2 - 1, i/2%3 - 1, i/6 - 1})
	}
}

// row is a model of bubbles each of which lies in the one ahead of it.
func row(t *testing.T) *model {
	m := begin()
	for b := range 32 {
		mask := all()
		mask[b/2] &^= 1 << b // each is without one worker
		m.make(t, b-1, mask)
	}
	return m
}

func TestDeep(t *testing.T) { // P13.1, P13.2: 32 within one another
	m := row(t)
	m.check(t)
	for b := range 32 {
		m.seal(t, b)
	}
	m.place(t, 0, 4)
	for b := range 32 {
		m.place(t, (b+1)%32, 9) // not as long as the one round it hasn't burst
		m.burst(t, b)
		m.check(t)
	}
	for b := 31; b >= 0; b-- {
		m.regen(t, b, b+50)
		m.check(t)
		for n := b; n < 32; n++ { // all down again, for the next one
			m.burst(t, n)
		}
	}
}

func TestSiblings(t *testing.T) { // P13.1: those that lie in it alone, and of these its own alone
	m := begin()
	for _, up := range []int{-1, -1, 0, 1, 0, 1, 2, 4, 6, 0} {
		m.make(t, up, all())
	}
	for b := range 9 {
		m.seal(t, b)
	}
	for _, b := range []int{0, 1} {
		m.place(t, b, 10+b)
		m.burst(t, b)
		m.check(t)
	}
	m.burst(t, 2)
	m.burst(t, 3)
	m.burst(t, 6)
	m.check(t)
	m.regen(t, 2, 20) // 6 and 8, not its neighbours 4 and 7
	m.check(t)
	m.burst(t, 2)
	m.seal(t, 9)
	m.regen(t, 0, 21) // what is sealed already isn't told
	m.check(t)
}

// scribble writes over what was answered.
func scribble(l []int, e api.Errno) {
	for i := range l {
		l[i] = 99
	}
}

func TestApart(t *testing.T) { // P13.1, P13.2: what is answered is apart
	m := begin()
	for b := range 4 {
		m.make(t, min(b-1, 0), all()) // three in one
	}
	for b := range 3 {
		m.seal(t, b)
	}
	m.place(t, 0, 3)
	scribble(m.f.Burst(0))
	for b, state := range []int{4, 3, 3, 1} {
		x, _ := m.f.Get(b)
		m.l[b].State, m.l[b].Home = state, x.Home
	}
	m.check(t)
	scribble(m.f.Regen(0, 5))
	for b, state := range []int{3, 2, 2, 1} {
		x, _ := m.f.Get(b)
		m.l[b].State, m.l[b].Home = state, x.Home
	}
	m.check(t)
	m.burst(t, 0)
	m.regen(t, 0, 6)
	x, _ := m.f.Get(0)
	x.Mask[0], x.State = 0, 1
	s := m.f.Mask(0)
	s[0] = 0
	m.check(t)
}

func TestNil(t *testing.T) { // P13.2
	var f *bubble.Forest
	m := &model{f: f}
	m.check(t)
	m.make(t, -1, all())
	m.make(t, -1, api.Set{1})
	m.make(t, -1, api.Set{})
	for _, b := range append(strange, 0, 1, 31) {
		if b != -1 {
			m.make(t, b, all())
		}
		m.seal(t, b)
		m.place(t, b, 0)
		m.burst(t, b)
		m.regen(t, b, 0)
	}
	m.check(t)
}

func TestForestsApart(t *testing.T) { // P13.1: each forest has its own
	a, b := begin(), begin()
	a.make(t, -1, all())
	b.check(t)
	b.make(t, -1, api.Set{1})
	a.seal(t, 0)
	b.check(t)
	a.check(t)
}

// do does a deed at random with the forest and with the plain list.
func (m *model) do(t *testing.T, r *rand.Rand) {
	t.Helper()
	b := r.Intn(len(m.l) + 1)
	if r.Intn(20) == 0 {
		b = strange[r.Intn(len(strange))]
	}
	switch r.Intn(7) {
	case 0, 1:
		m.make(t, b-r.Intn(2), some()[r.Intn(len(some()))])
	case 2:
		m.seal(t, b)
	case 3:
		m.place(t, b, r.Intn(100)-10)
	case 4, 5:
		m.burst(t, b)
	case 6:
		m.regen(t, b, r.Intn(100)-10)
	}
}

func TestDeeds(t *testing.T) { // P13.1, P13.2, P13.3
	for seed := range int64(300) {
		r := rand.New(rand.NewSource(seed))
		m := begin()
		for i := range 400 {
			m.do(t, r)
			m.follows(t)
			if i%20 == 0 {
				m.check(t)
			}
		}
		m.check(t)
	}
}

// within is the bubbles that lie in b, by the forest alone, as they are now.
func within(f *bubble.Forest, b int) map[int]api.Bubble {
	l := map[int]api.Bubble{}
	for n := range f.Len() {
		if x, _ := f.Get(n); n != b && f.Inside(n, b) {
			l[n] = x
		}
	}
	return l
}

func TestRegenBehindBurst(t *testing.T) { // P13.4
	checked := 0
	for seed := range int64(400) {
		r := rand.New(rand.NewSource(seed))
		m := begin()
		for range r.Intn(200) {
			m.do(t, r)
		}
		for b, x := range m.l {
			if x.State != api.Placed {
				continue
			}
			was := within(m.f, b)
			m.burst(t, b)
			for range r.Intn(3) * 20 { // and what is done between; but for b, and what is round it
				if n := r.Intn(len(m.l)); n != b && m.lies(n, b) {
					deeds(len(m.l))[4*n+r.Intn(4)](m, t, r.Intn(50))
				}
			}
			m.regen(t, b, 7)
			for n, now := range within(m.f, b) {
				if now.State != was[n].State && now.State != api.Sealed || now.Up != was[n].Up || now.Mask != was[n].Mask {
					t.Fatalf("%d in %d: was %v, is %v", n, b, was[n], now)
				}
				checked++
			}
		}
	}
	if checked < 100 {
		t.Error("too few bubbles lay in others:", checked)
	}
}
