package ring_test

import (
	"iter"
	"math"
	"math/rand"
	"runtime"
	"slices"
	"testing"
	"weak"

	"pinfold/ring"
)

const mostRoom = 1 << 12

// pair is what a loop tells.
type pair struct{ i, x int }

// told is what a loop tells, front to back.
func told(seq iter.Seq2[int, int]) []pair {
	var l []pair
	for i, x := range seq {
		l = append(l, pair{i, x})
	}
	return l
}

// pairs is what a loop from the place from on must tell of a row that is this list.
func pairs(l []int, from int) []pair {
	var told []pair
	for i, x := range l {
		if from >= 0 && i >= from {
			told = append(told, pair{i, x})
		}
	}
	return told
}

// model is a row as a plain list, beside the row that is to be like it.
type model struct {
	r    *ring.Ring[int]
	l    []int
	room int
	next int // what is put in next: no two things are one
}

func begin(room int) *model { return &model{r: ring.New[int](room), room: room, next: 1} }

func (m *model) put(t *testing.T, name string, i int, put func(int) bool) {
	t.Helper()
	want := len(m.l) < m.room && i >= 0 && i <= len(m.l)
	if got := put(m.next); got != want {
		t.Fatalf("%s(%d) at %d of %v, room %d: %t", name, m.next, i, m.l, m.room, got)
	}
	if want {
		m.l = slices.Insert(m.l, i, m.next)
	}
	m.next++
}

func (m *model) take(t *testing.T, name string, i int, take func() (int, bool)) {
	t.Helper()
	want, is := 0, i >= 0 && i < len(m.l)
	if is {
		want = m.l[i]
	}
	if got, ok := take(); got != want || ok != is {
		t.Fatalf("%s at %d of %v: %d, %t", name, i, m.l, got, ok)
	}
	if is {
		m.l = slices.Delete(m.l, i, i+1)
	}
}

func (m *model) back(t *testing.T)  { t.Helper(); m.put(t, "Back", len(m.l), m.r.Back) }
func (m *model) front(t *testing.T) { t.Helper(); m.put(t, "Front", 0, m.r.Front) }
func (m *model) first(t *testing.T) { t.Helper(); m.take(t, "First", 0, m.r.First) }
func (m *model) last(t *testing.T)  { t.Helper(); m.take(t, "Last", len(m.l)-1, m.r.Last) }
func (m *model) at(t *testing.T, i int) {
	t.Helper()
	m.put(t, "Put", i, func(x int) bool { return m.r.Put(i, x) })
}
func (m *model) out(t *testing.T, i int) {
	t.Helper()
	m.take(t, "Take", i, func() (int, bool) { return m.r.Take(i) })
}

// check checks that the row is the plain list.
func (m *model) check(t *testing.T) { // P5.2, P5.3, P5.6
	t.Helper()
	if m.r.Len() != len(m.l) || m.r.Room() != m.room {
		t.Fatalf("%v, room %d: Len %d, Room %d", m.l, m.room, m.r.Len(), m.r.Room())
	}
	for i, want := range m.l {
		if x, ok := m.r.At(i); x != want || !ok {
			t.Fatalf("%v: At(%d): %d, %t", m.l, i, x, ok)
		}
	}
	for _, i := range []int{-1, len(m.l), len(m.l) + 1, math.MinInt, math.MaxInt} {
		if x, ok := m.r.At(i); x != 0 || ok {
			t.Fatalf("%v: At(%d): %d, %t", m.l, i, x, ok)
		}
	}
	if got := told(m.r.Each(0)); !slices.Equal(got, pairs(m.l, 0)) {
		t.Fatalf("%v: Each(0): %v", m.l, got)
	}
}

// filled is a row with room for so many, which has the numbers from 1 on, so many of them, and begins at each place of its list in its turn, if begun runs over all.
func filled(t *testing.T, room, n, begun int) *model {
	t.Helper()
	m := begin(room)
	for range room {
		m.back(t)
	}
	for range begun {
		m.first(t)
		m.back(t)
	}
	for range room - n {
		m.last(t)
	}
	return m
}

func TestExample(t *testing.T) { // P5.1, P5.2
	r := ring.New[int](2)
	if !r.Back(1) || !r.Back(2) || r.Back(3) {
		t.Error("room for 2")
	}
	if x, ok := r.First(); x != 1 || !ok {
		t.Error(x, ok)
	}
	if !r.Front(4) {
		t.Error("room for one more")
	}
	if x, ok := r.Last(); x != 2 || !ok {
		t.Error(x, ok)
	}
	if x, ok := r.Last(); x != 4 || !ok || r.Len() != 0 {
		t.Error(x, ok, r.Len())
	}
}

func TestRoom(t *testing.T) { // P5.1, P5.2
	for _, w := range []struct{ asked, room int }{
		{0, 0}, {1, 1}, {2, 2}, {3, 3}, {7, 7}, {1024, 1024}, {mostRoom - 1, mostRoom - 1}, {mostRoom, mostRoom},
		{-1, 0}, {-mostRoom, 0}, {math.MinInt, 0}, {mostRoom + 1, mostRoom}, {1 << 40, mostRoom}, {math.MaxInt, mostRoom},
	} {
		back, front := begin(w.room), begin(w.room)
		back.r, front.r = ring.New[int](w.asked), ring.New[int](w.asked)
		back.check(t)
		for range w.room + 2 { // twice there is no room
			back.back(t)
			front.front(t)
		}
		back.at(t, w.room/2)
		back.check(t)
		front.check(t)
	}
}

func TestPutAndTakeAnywhere(t *testing.T) { // P5.1, P5.2
	const room = 9
	for n := range room + 1 {
		for begun := range room {
			for _, i := range []int{math.MinInt, -room, -1, 0, 1, 2, 3, 4, 5, 6, 7, 8, 9, 10, room + n, math.MaxInt} {
				m := filled(t, room, n, begun)
				m.at(t, i)
				m.check(t)
				m = filled(t, room, n, begun)
				m.out(t, i)
				m.check(t)
			}
		}
	}
}

func TestTaken(t *testing.T) { // P5.2: a zero value and false of none, for each way to take
	m := begin(3)
	m.first(t)
	m.last(t)
	m.out(t, 0)
	m.out(t, -1)
	m.check(t)
	texts := ring.New[string](2)
	texts.Back("a")
	texts.First()
	if x, ok := texts.First(); x != "" || ok {
		t.Error(x, ok)
	}
	if x, ok := texts.Last(); x != "" || ok {
		t.Error(x, ok)
	}
	if x, ok := texts.At(0); x != "" || ok {
		t.Error(x, ok)
	}
	if x, ok := texts.Take(0); x != "" || ok {
		t.Error(x, ok)
	}
}

func TestEach(t *testing.T) { // P5.3
	const room = 6
	for n := range room + 1 {
		for begun := range room {
			m := filled(t, room, n, begun)
			for _, from := range []int{math.MinInt, -room, -1, 0, 1, 2, 3, 4, 5, 6, 7, math.MaxInt} {
				if got := told(m.r.Each(from)); !slices.Equal(got, pairs(m.l, from)) {
					t.Fatalf("%v: Each(%d): %v", m.l, from, got)
				}
			}
			m.check(t)
		}
	}
}

func TestEachIsLeft(t *testing.T) { // P5.3
	m := filled(t, 5, 5, 3)
	for n := 1; n <= 5; n++ {
		var l []pair
		for i, x := range m.r.Each(0) {
			l = append(l, pair{i, x})
			if len(l) == n {
				break
			}
		}
		if !slices.Equal(l, pairs(m.l, 0)[:n]) {
			t.Error(n, l)
		}
	}
	m.check(t)
}

func TestEachAsBegun(t *testing.T) { // P5.3
	m := filled(t, 4, 3, 2)
	seq, behind := m.r.Each(1), m.r.Each(3)
	m.back(t) // a loop isn't begun till now
	if got := told(seq); !slices.Equal(got, pairs(m.l, 1)) {
		t.Errorf("%v: %v", m.l, got)
	}
	if got := told(behind); !slices.Equal(got, pairs(m.l, 3)) {
		t.Errorf("%v: %v", m.l, got)
	}
	was := slices.Clone(m.l)
	var l []pair
	for i, x := range m.r.Each(0) { // what is done within it changes the row, not the loop
		l = append(l, pair{i, x})
		m.first(t)
		if i%2 == 0 {
			m.back(t)
			m.at(t, 1)
		}
	}
	if !slices.Equal(l, pairs(was, 0)) {
		t.Errorf("%v: %v", was, l)
	}
	m.check(t)
	if got := told(seq); !slices.Equal(got, pairs(m.l, 1)) { // and another loop is begun anew
		t.Errorf("%v: %v", m.l, got)
	}
	for range m.l {
		m.last(t)
	}
	if got := told(seq); len(got) != 0 {
		t.Error(got)
	}
}

func TestNil(t *testing.T) { // P5.4
	var r *ring.Ring[int]
	for _, i := range []int{math.MinInt, -1, 0, 1, math.MaxInt} {
		if r.Put(i, 7) {
			t.Error("put", i)
		}
		if x, ok := r.At(i); x != 0 || ok {
			t.Error(i, x, ok)
		}
		if x, ok := r.Take(i); x != 0 || ok {
			t.Error(i, x, ok)
		}
		if l := told(r.Each(i)); len(l) != 0 {
			t.Error(i, l)
		}
	}
	if r.Back(7) || r.Front(7) {
		t.Error("put")
	}
	if x, ok := r.First(); x != 0 || ok {
		t.Error(x, ok)
	}
	if x, ok := r.Last(); x != 0 || ok {
		t.Error(x, ok)
	}
	if r.Len() != 0 || r.Room() != 0 {
		t.Error(r.Len(), r.Room())
	}
}

func TestEnds(t *testing.T) { // P5.5
	const n = 100
	ends := []struct {
		put  func(*ring.Ring[int], int) bool
		take func(*ring.Ring[int]) (int, bool)
	}{
		{(*ring.Ring[int]).Back, (*ring.Ring[int]).Last},
		{(*ring.Ring[int]).Front, (*ring.Ring[int]).First},
	}
	for in := range ends {
		for out := range ends {
			r := ring.New[int](n)
			for x := range n {
				ends[in].put(r, x)
			}
			for i := range n {
				want := n - 1 - i // last in, first out
				if in != out {
					want = i
				}
				if x, ok := ends[out].take(r); x != want || !ok {
					t.Fatal(in, out, i, x, ok)
				}
			}
		}
	}
}

// do does the deed of that number on the row and on the plain list, and tells how many deeds there are.
func do(t *testing.T, m *model, deed int) int {
	deeds := []func(){
		func() { m.back(t) },
		func() { m.front(t) },
		func() { m.first(t) },
		func() { m.last(t) },
		func() { m.at(t, 1) },
		func() { m.out(t, 1) },
		func() { m.at(t, len(m.l)-1) },
		func() { m.out(t, len(m.l)-2) },
	}
	if deed < len(deeds) {
		deeds[deed]()
	}
	return len(deeds)
}

func TestAllShortRowsOfDeeds(t *testing.T) { // P5.6
	const long = 5
	deeds := do(t, begin(0), math.MaxInt)
	all := 1
	for range long {
		all *= deeds
	}
	for room := range 5 {
		for n := range all {
			m := begin(room)
			for rest, i := n, 0; i < long; rest, i = rest/deeds, i+1 {
				do(t, m, rest%deeds)
			}
			m.check(t)
		}
	}
}

func TestDeedsAtRandom(t *testing.T) { // P5.6
	r := rand.New(rand.NewSource(5))
	for _, room := range []int{0, 1, 2, 3, 4, 5, 7, 8, 9, 16, 33, 100} {
		m := begin(room)
		for range 6000 {
			grow := r.Intn(room+3) > len(m.l)
			switch i := r.Intn(len(m.l)+3) - 1; r.Intn(4) {
			case 0:
				if grow {
					m.at(t, i)
				} else {
					m.out(t, i)
				}
			case 1:
				do(t, m, r.Intn(8))
			case 2:
				if grow {
					m.back(t)
				} else {
					m.first(t)
				}
			case 3:
				if grow {
					m.front(t)
				} else {
					m.last(t)
				}
			}
			m.check(t)
		}
	}
}

func TestGreatest(t *testing.T) { // P5.1, P5.6: as much room as there may be, gone round in
	m := begin(mostRoom)
	for range mostRoom {
		m.back(t)
	}
	m.back(t)
	for range mostRoom / 3 {
		m.first(t)
	}
	for range mostRoom / 5 {
		m.back(t)
	}
	for _, i := range []int{0, 1, 1000, 2047, 2048, 2049, 3000} {
		m.at(t, i)
		m.out(t, i+1)
	}
	m.check(t)
}

func TestRowsAreApart(t *testing.T) { // what is done to one row changes no other one
	a, b := begin(3), begin(3)
	a.back(t)
	b.next = 10
	b.front(t)
	b.front(t)
	a.check(t)
	b.check(t)
	a.first(t)
	b.check(t)
}

// big is a thing that has memory of its own.
type big [64]byte

// keptOf is what is still kept of so many things that went through a row.
func keptOf(r *ring.Ring[*big], n int) int {
	var things []weak.Pointer[big]
	for i := range n {
		x := new(big)
		things = append(things, weak.Make(x))
		r.Put(i/2, x)
	}
	for i := range n - 1 {
		r.Take([]int{0, r.Len() - 1, r.Len() / 2, r.Len() / 3}[i%4])
	}
	runtime.GC()
	kept := 0
	for _, p := range things {
		if p.Value() != nil {
			kept++
		}
	}
	runtime.KeepAlive(r)
	return kept
}

func TestWhatIsTakenIsNotKept(t *testing.T) { // P5.2: it is gone
	if kept := keptOf(ring.New[*big](20), 20); kept != 1 {
		t.Error(kept, "things are kept, of 1 that is there")
	}
}
