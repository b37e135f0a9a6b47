package wheel_test

import (
	"math"
	"math/rand"
	"runtime"
	"slices"
	"testing"

	"pinfold/wheel"
)

const (
	lastTime = 1 << 30
	mostSkip = 1 << 12
)

// due is a thing, and when it is due.
type due struct{ when, x int }

// model is a wheel as a plain list in the order in which things were put in, beside the wheel that is to be like it.
type model struct {
	w   *wheel.Wheel
	now int
	l   []due
}

func begin(now int) *model { return &model{w: wheel.New(now), now: now} }

// at is where x stands in the list; -1, if it isn't there.
func (m *model) at(x int) int {
	return slices.IndexFunc(m.l, func(d due) bool { return d.x == x })
}

func (m *model) put(t *testing.T, when, x int) {
	t.Helper()
	want := when > m.now && when <= lastTime && m.at(x) < 0
	if got := m.w.Put(when, x); got != want {
		t.Fatalf("at %d, %v: Put(%d, %d): %t", m.now, m.l, when, x, got)
	}
	if want {
		m.l = append(m.l, due{when, x})
	}
}

func (m *model) drop(t *testing.T, x int) {
	t.Helper()
	i := m.at(x)
	if got := m.w.Drop(x); got != (i >= 0) {
		t.Fatalf("at %d, %v: Drop(%d): %t", m.now, m.l, x, got)
	}
	if i >= 0 {
		m.l = slices.Delete(m.l, i, i+1)
	}
}

// pass lets the list's time be one more, and is what is due then.
func (m *model) pass() []int {
	if m.now == lastTime {
		return nil
	}
	m.now++
	var told []int
	for _, d := range m.l {
		if d.when == m.now {
			told = append(told, d.x)
		}
	}
	m.l = slices.DeleteFunc(m.l, func(d due) bool { return d.when == m.now })
	return told
}

func (m *model) tick(t *testing.T) {
	t.Helper()
	was := slices.Clone(m.l)
	want := m.pass()
	if got := m.w.Tick(); !slices.Equal(got, want) {
		t.Fatalf("%v: Tick to %d: %v, not %v", was, m.now, got, want)
	}
}

func (m *model) skip(t *testing.T, n int) {
	t.Helper()
	was, now := slices.Clone(m.l), m.now
	var want []int
	for range min(n, mostSkip) {
		want = append(want, m.pass()...)
	}
	if got := m.w.Skip(n); !slices.Equal(got, want) {
		t.Fatalf("at %d, %v: Skip(%d): %v, not %v", now, was, n, got, want)
	}
}

// check checks that the wheel is the plain list, of which these things are asked, and those that are there.
func (m *model) check(t *testing.T, things ...int) { // P32.1
	t.Helper()
	if m.w.Len() != len(m.l) || m.w.Now() != m.now {
		t.Fatalf("at %d, %v: Len %d, Now %d", m.now, m.l, m.w.Len(), m.w.Now())
	}
	for _, d := range m.l {
		if when, ok := m.w.When(d.x); when != d.when || !ok {
			t.Fatalf("at %d, %v: When(%d): %d, %t", m.now, m.l, d.x, when, ok)
		}
	}
	for _, x := range things {
		if when, ok := m.w.When(x); m.at(x) < 0 && (when != 0 || ok) {
			t.Fatalf("at %d, %v: When(%d): %d, %t", m.now, m.l, x, when, ok)
		}
	}
}

func TestExample(t *testing.T) { // P32.1, P32.2
	w := wheel.New(0)
	if !w.Put(3, 7) || !w.Put(3, 8) || !w.Put(300, 9) {
		t.Fatal("put")
	}
	for range 2 {
		if l := w.Tick(); len(l) != 0 {
			t.Error(l)
		}
	}
	if l := w.Tick(); !slices.Equal(l, []int{7, 8}) {
		t.Error(l)
	}
	if l := w.Skip(297); !slices.Equal(l, []int{9}) || w.Now() != 300 || w.Len() != 0 {
		t.Error(l, w.Now(), w.Len())
	}
}

func TestNew(t *testing.T) { // P32.1
	for _, w := range []struct{ asked, now int }{
		{0, 0}, {1, 1}, {63, 63}, {64, 64}, {1 << 20, 1 << 20}, {lastTime - 1, lastTime - 1}, {lastTime, lastTime},
		{-1, 0}, {-lastTime, 0}, {math.MinInt, 0}, {lastTime + 1, lastTime}, {1 << 40, lastTime}, {math.MaxInt, lastTime},
	} {
		m := begin(w.now)
		m.w = wheel.New(w.asked)
		m.check(t, 0, 1, -1)
		for i, when := range []int{math.MinInt, -1, 0, 1, w.now - 1, w.now, w.now + 1, w.now + 2, lastTime - 1, lastTime, lastTime + 1, 1 << 31, 1 << 32, 1<<32 + w.now + 1, 1<<36 + 1, math.MaxInt} {
			m.put(t, when, i)
		}
		m.check(t, 0, 1, 2, 3, 20)
		m.tick(t)
		m.tick(t)
		m.check(t, 0, 1, 2, 3, 20)
	}
}

func TestTwice(t *testing.T) { // P32.1
	m := begin(5)
	for _, x := range []int{0, -1, math.MinInt, math.MaxInt, 7} { // any number is a thing's
		m.put(t, 8, x)
		for _, when := range []int{8, 7, 6, 9, 1000, 5, 0} { // it stays due when it was
			m.put(t, when, x)
		}
		m.check(t, 1)
	}
	m.drop(t, 7)
	m.drop(t, 7)
	m.drop(t, 1)
	m.check(t, 7, 1)
	m.put(t, 9, 7) // what went may come again
	m.drop(t, 0)
	m.put(t, 8, 0) // and stands behind what was put in since
	m.check(t)
	for range 4 {
		m.tick(t)
	}
	m.check(t, 7, 0, -1)
	m.drop(t, 7)   // what was told is gone
	m.put(t, 9, 7) // and may not be due at the time itself
	m.put(t, 10, 7)
	m.check(t, 0)
	m.tick(t)
}

func TestLastTime(t *testing.T) { // P32.1, P32.2
	m := begin(lastTime - 3)
	m.put(t, lastTime, 1)
	m.put(t, lastTime-1, 2)
	m.put(t, lastTime+1, 3)
	m.put(t, lastTime, 4)
	for range 6 { // three times there is none more
		m.tick(t)
		m.check(t, 1, 2, 3, 4)
	}
	m.put(t, lastTime, 1)
	m.put(t, lastTime+1, 1)
	for _, n := range []int{1, 2, mostSkip, math.MaxInt} {
		m.skip(t, n)
		m.check(t, 1)
	}
	m = begin(lastTime - 100)
	m.put(t, lastTime, 1)
	m.put(t, lastTime-50, 2)
	m.skip(t, 101)
	m.check(t, 1, 2)
}

func TestSkip(t *testing.T) { // P32.2
	for _, n := range []int{math.MinInt, -mostSkip, -1, 0, 1, 2, 63, 64, 65, mostSkip - 1, mostSkip, mostSkip + 1, 2 * mostSkip, math.MaxInt} {
		for _, now := range []int{0, 61, 4000, 1<<18 - 7} {
			m := begin(now)
			for i, after := range []int{1, 2, 63, 64, 65, mostSkip - 1, mostSkip, mostSkip + 1, mostSkip + 2, 2 * mostSkip} {
				m.put(t, now+after, i)
				m.put(t, now+after, 100-i)
			}
			m.skip(t, n)
			m.check(t, 0, 1, 2)
			m.skip(t, n)
			m.check(t, 0, 1, 2)
		}
	}
}

func TestOrder(t *testing.T) { // P32.2: in the order in which it was put in, from however far
	for bit := range 31 {
		for _, off := range []int{-1, 0, 1, 5} {
			when := 1<<bit + off
			m := begin(max(when-200, 0))
			x := 0
			for m.now < min(when, lastTime-1) {
				if m.now%3 == 0 || when-m.now < 5 {
					m.put(t, when, x)
					m.put(t, when+1, x+1)
					x += 2
				}
				if x%14 == 6 {
					m.drop(t, x-6)
					m.put(t, when, x-6)
				}
				m.tick(t)
			}
			m.tick(t)
			m.tick(t)
			m.check(t, 0, 1)
		}
	}
}

func TestFarAhead(t *testing.T) { // P32.4: however many ticks ahead
	m := begin(0)
	const most = 1 << 22
	for bit := range 31 {
		for off := -1; off < 2; off++ {
			m.put(t, 1<<bit+off, 3*bit+off+1)
		}
	}
	for m.now < most {
		next := most // no more than the list's next one, as a plain list's ticks take long
		for _, d := range m.l {
			next = min(next, d.when)
		}
		for m.now < next {
			n := min(next-1-m.now, mostSkip)
			if n == 0 {
				m.tick(t)
				continue
			}
			m.now += n
			if l := m.w.Skip(n); len(l) != 0 || m.w.Now() != m.now {
				t.Fatal(m.now, l, m.w.Now())
			}
		}
		m.check(t)
	}
}

func TestDropAnywhere(t *testing.T) { // P32.1, P32.4
	const n = 5
	for _, now := range []int{0, 62, 4094, 1<<12 - 3, 1<<18 - 70} {
		for which := range 1 << n {
			for _, at := range []int{0, 1, 66} { // ahead of all, and when some ticks have gone by
				m := begin(now)
				for x := range n {
					m.put(t, now+68, x)
				}
				m.skip(t, at)
				for x := range n {
					if which>>x&1 == 1 {
						m.drop(t, x)
					}
				}
				m.put(t, now+68, 0)
				m.put(t, now+68, n)
				m.check(t, 0, 1, 2, 3, 4)
				m.skip(t, 67-at)
				m.tick(t)
				m.check(t, 0, 1, 2, 3, 4, 5)
			}
		}
	}
}

func TestNil(t *testing.T) { // P32.3
	var w *wheel.Wheel
	for _, x := range []int{0, 1, -1, math.MaxInt} {
		if w.Put(1, x) || w.Put(x, 1) || w.Drop(x) {
			t.Error("put, or dropped", x)
		}
		if when, ok := w.When(x); when != 0 || ok {
			t.Error(when, ok)
		}
		if l := w.Skip(x); len(l) != 0 {
			t.Error(x, l)
		}
	}
	if l := w.Tick(); len(l) != 0 || w.Now() != 0 || w.Len() != 0 {
		t.Error(l, w.Now(), w.Len())
	}
}

// do does the deed of that number on the wheel and on the plain list, and tells how many deeds there are.
func do(t *testing.T, m *model, deed int) int {
	deeds := []func(){
		func() { m.put(t, m.now+1, 1) },
		func() { m.put(t, m.now+2, 2) },
		func() { m.put(t, 64, 1) },
		func() { m.put(t, 64, 2) },
		func() { m.put(t, 65, 3) },
		func() { m.drop(t, 1) },
		func() { m.drop(t, 2) },
		func() { m.tick(t) },
		func() { m.skip(t, 2) },
		func() { m.skip(t, 60) },
	}
	if deed < len(deeds) {
		deeds[deed]()
	}
	return len(deeds)
}

func TestAllShortRowsOfDeeds(t *testing.T) { // P32.1, P32.2
	const long = 4
	deeds := do(t, begin(0), math.MaxInt)
	all := 1
	for range long {
		all *= deeds
	}
	for _, now := range []int{0, 62} {
		for n := range all {
			m := begin(now)
			for rest, i := n, 0; i < long; rest, i = rest/deeds, i+1 {
				do(t, m, rest%deeds)
			}
			m.check(t, 1, 2, 3, 4)
			m.skip(t, 5)
			m.skip(t, 65)
		}
	}
}

func TestDeedsAtRandom(t *testing.T) { // P32.1, P32.2, P32.4
	r := rand.New(rand.NewSource(32))
	for _, now := range []int{0, 1, 50, 4000, 1<<18 - 500, 1<<24 - 2000, 1<<24 - 1, 1<<29 - 300, lastTime - 1<<13} {
		for _, far := range []int{3, 20, 100, 5000, 1 << 19, lastTime} {
			m := begin(now)
			for i := range 400 {
				x := r.Intn(60)
				switch n := r.Intn(20); {
				case n < 8:
					m.put(t, m.now+r.Intn(far+1), x)
				case n < 12:
					m.put(t, m.now+1+r.Intn(6), x)
				case n < 14:
					m.drop(t, x)
				case n < 18:
					m.tick(t)
				case n < 19:
					m.skip(t, r.Intn(70))
				default:
					m.skip(t, r.Intn(min(far, 700)))
				}
				if i%5 == 0 {
					m.check(t, 1, 7, 20, 59, 60)
				}
			}
		}
	}
}

func TestTickedAsSkipped(t *testing.T) { // P32.4, P32.5: once each, at its time, whether ticked or skipped
	r := rand.New(rand.NewSource(33))
	for range 30 {
		now := r.Intn(1 << 19)
		ticked, skipped := wheel.New(now), wheel.New(now)
		when := make([]int, 300)
		for x := range when {
			when[x] = now + 1 + r.Intn(3*mostSkip)
			ticked.Put(when[x], x)
			skipped.Put(when[x], x)
		}
		var all, some []int
		for i := range 3 * mostSkip {
			for _, x := range ticked.Tick() {
				if when[x] != now+i+1 {
					t.Fatal(x, when[x], now+i+1)
				}
				all = append(all, x)
			}
		}
		for skipped.Now() < ticked.Now() {
			some = append(some, skipped.Skip(min(1+r.Intn(mostSkip), ticked.Now()-skipped.Now()))...)
		}
		if !slices.Equal(all, some) || len(all) != len(when) || ticked.Len() != 0 || skipped.Len() != 0 {
			t.Fatal(len(all), len(some), ticked.Len(), skipped.Len())
		}
		slices.Sort(all)
		if len(slices.Compact(all)) != len(when) {
			t.Fatal("told twice")
		}
	}
}

func TestWheelsAreApart(t *testing.T) { // what is done to one changes no other one
	a, b := begin(1), begin(2)
	a.put(t, 4, 1)
	b.check(t, 1)
	b.put(t, 4, 2)
	b.put(t, 90, 1)
	a.skip(t, 9)
	b.check(t, 1)
	b.skip(t, 90)
}

// inUse is how many bytes of memory are in use.
func inUse() int {
	runtime.GC()
	var m runtime.MemStats
	runtime.ReadMemStats(&m)
	return int(m.HeapAlloc)
}

func TestWhatGoesIsNotKept(t *testing.T) { // P32.1, P32.2: it goes
	w := wheel.New(0)
	w.Put(lastTime, 0)
	was := inUse()
	for i := range 100000 {
		w.Put(w.Now()+1+i%9000, 1)
		w.Put(w.Now()+1, 2)
		w.Put(lastTime-i, 3)
		w.Drop(3)
		if i%2 == 0 {
			w.Drop(1)
		}
		w.Tick()
	}
	if grown := inUse() - was; grown > 1<<20 {
		t.Error(grown, "bytes more")
	}
	runtime.KeepAlive(w)
}
