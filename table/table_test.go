package table_test

import (
	"math"
	"math/rand"
	"slices"
	"testing"

	"pinfold/api"
	"pinfold/table"
)

// strange are numbers that are no task's.
var strange = []int{-1, -2, 256, 257, 1 << 12, 1 << 40, math.MinInt, math.MaxInt}

// plain is a task that may be, told from others by its On.
func plain(state, on int) api.Task { return api.Task{Pin: -1, Bubble: -1, State: state, On: on} }

// full is a task whose fields are all unlike zero, and unlike one another.
func full() api.Task {
	return api.Task{Prog: 15, Pc: 63, Regs: [4]int32{1, -2, math.MinInt32, math.MaxInt32}, Prio: 3, Mask: api.Set{5, 15: 1 << 63}, Pin: 1023, Bubble: 31, State: 8, On: -77, Last: -78, Reg: -79}
}

// may tells whether the task may be, by a second reading of the chapter.
func may(x api.Task) bool {
	for _, f := range [][3]int{{0, x.Prog, 15}, {0, x.Prio, 3}, {-1, x.Pin, 1023}, {-1, x.Bubble, 31}, {1, x.State, 8}, {0, x.Pc, 63}} {
		if f[1] < f[0] || f[1] > f[2] {
			return false
		}
	}
	return true
}

// model is a table as plain lists, beside the one that is to be like it.
type model struct {
	b     *table.Table
	room  int
	tasks []api.Task
	waits [][2]int // id and on, in the order of joining
}

func begin(room int) *model {
	return &model{b: table.New(room), room: min(max(room, 0), 256)}
}

func (m *model) has(id int) bool { return id >= 0 && id < len(m.tasks) }

func (m *model) add(t *testing.T, x api.Task) {
	t.Helper()
	id, want := 0, api.OK
	switch {
	case !may(x):
		want = api.ErrArg
	case len(m.tasks) >= m.room:
		want = api.ErrFull
	default:
		id = len(m.tasks)
		m.tasks = append(m.tasks, x)
	}
	if got, e := m.b.Add(x); got != id || e != want {
		t.Fatalf("%d of %d: Add(%v): %d, %d, not %d, %d", len(m.tasks), m.room, x, got, e, id, want)
	}
}

func (m *model) set(t *testing.T, id int, x api.Task) {
	t.Helper()
	want := api.OK
	switch {
	case !m.has(id):
		want = api.ErrNone
	case !may(x):
		want = api.ErrArg
	case m.tasks[id].State == 8:
		want = api.ErrState
	default:
		m.tasks[id] = x
	}
	if e := m.b.Set(id, x); e != want {
		t.Fatalf("%v: Set(%d, %v): %d, not %d", m.tasks, id, x, e, want)
	}
}

func (m *model) join(t *testing.T, id, on int) {
	t.Helper()
	want := api.OK
	switch {
	case !m.has(id) || !m.has(on):
		want = api.ErrNone
	case id == on:
		want = api.ErrArg
	case m.tasks[on].State == 8:
		want = api.ErrState
	case slices.ContainsFunc(m.waits, func(w [2]int) bool { return w[0] == id }):
		want = api.ErrTwice
	default:
		m.waits = append(m.waits, [2]int{id, on})
	}
	if e := m.b.Join(id, on); e != want {
		t.Fatalf("%v, %v: Join(%d, %d): %d, not %d", m.tasks, m.waits, id, on, e, want)
	}
}

func (m *model) joined(t *testing.T, on int) {
	t.Helper()
	was := slices.Clone(m.waits)
	var want []int
	m.waits = slices.DeleteFunc(m.waits, func(w [2]int) bool {
		if w[1] == on {
			want = append(want, w[0])
		}
		return w[1] == on
	})
	if l := m.b.Joined(on); !slices.Equal(l, want) {
		t.Fatalf("%v: Joined(%d): %v, not %v", was, on, l, want)
	}
}

// checkIn checks who is in that state with that On.
func (m *model) checkIn(t *testing.T, state, on int) { // P12.2
	t.Helper()
	var want []int
	n := 0
	for id, x := range m.tasks {
		if x.State == state {
			n++
			if x.On == on {
				want = append(want, id)
			}
		}
	}
	if l := m.b.In(state, on); !slices.Equal(l, want) {
		t.Fatalf("%v: In(%d, %d): %v, not %v", m.tasks, state, on, l, want)
	}
	if got := m.b.Count(state); got != n {
		t.Fatalf("%v: Count(%d): %d, not %d", m.tasks, state, got, n)
	}
}

// check checks that the table is the plain lists, in all that changes nothing.
func (m *model) check(t *testing.T) { // P12.1, P12.2
	t.Helper()
	if m.b.Len() != len(m.tasks) || m.b.Room() != m.room {
		t.Fatalf("Len %d, Room %d, not %d, %d", m.b.Len(), m.b.Room(), len(m.tasks), m.room)
	}
	for id, want := range m.tasks {
		if x, ok := m.b.Get(id); x != want || !ok {
			t.Fatalf("Get(%d): %v, %t, not %v", id, x, ok, want)
		}
	}
	for _, id := range append(strange, len(m.tasks), m.room) {
		if x, ok := m.b.Get(id); !m.has(id) && (x != (api.Task{}) || ok) {
			t.Fatalf("Get(%d): %v, %t", id, x, ok)
		}
	}
	for state := -1; state <= 9; state++ {
		for on := -1; on <= 3; on++ {
			m.checkIn(t, state, on)
		}
	}
}

func TestExample(t *testing.T) { // P12.1, P12.3
	b := table.New(2)
	for want := range 2 {
		if id, e := b.Add(plain(api.Parked, 0)); id != want || e != api.OK {
			t.Error(id, e)
		}
	}
	if id, e := b.Add(plain(api.Parked, 0)); id != 0 || e != api.ErrFull {
		t.Error(id, e)
	}
	if e, f := b.Join(0, 1), b.Join(1, 1); e != api.OK || f != api.ErrArg {
		t.Error(e, f)
	}
	if l := b.Joined(1); !slices.Equal(l, []int{0}) {
		t.Error(l)
	}
}

func TestMay(t *testing.T) { // P12.1
	edges := []int{math.MinInt, math.MinInt32, -1000, -2, -1, 0, 1, 2, 3, 4, 7, 8, 9, 14, 15, 16, 30, 31, 32, 33, 62, 63, 64, 65, 255, 256, 1022, 1023, 1024, 1025, 1 << 32, 1<<32 + 1, math.MaxInt}
	tasks := []api.Task{{}, plain(1, 0), plain(8, -1), full()}
	for _, x := range tasks {
		for _, n := range edges {
			for _, k := range edges {
				for field := range 8 {
					y := x
					fields := []*int{&y.Prog, &y.Prio, &y.Pin, &y.Bubble, &y.State, &y.Pc, &y.On, &y.Last, &y.Reg}
					*fields[field], *fields[field+1] = n, k
					if got := table.May(y); got != may(y) {
						t.Fatalf("May(%v): %t", y, got)
					}
				}
			}
		}
	}
	for _, x := range tasks[1:] {
		x.Regs, x.Mask = [4]int32{math.MinInt32, -1, 0, math.MaxInt32}, api.Set{} // of these nothing is asked
		x.On, x.Last, x.Reg = math.MinInt, math.MaxInt, -5
		if !table.May(x) {
			t.Errorf("May(%v)", x)
		}
	}
}

// wrong are tasks that may not be, each for one field.
func wrong() []api.Task {
	var l []api.Task
	for _, change := range []func(x *api.Task){
		func(x *api.Task) { x.Prog = -1 }, func(x *api.Task) { x.Prog = 16 },
		func(x *api.Task) { x.Prio = -1 }, func(x *api.Task) { x.Prio = 4 },
		func(x *api.Task) { x.Pin = -2 }, func(x *api.Task) { x.Pin = 1024 },
		func(x *api.Task) { x.Bubble = -2 }, func(x *api.Task) { x.Bubble = 32 },
		func(x *api.Task) { x.State = 0 }, func(x *api.Task) { x.State = 9 },
		func(x *api.Task) { x.Pc = -1 }, func(x *api.Task) { x.Pc = 64 },
	} {
		x := plain(1, 0)
		change(&x)
		l = append(l, x)
	}
	return l
}

func TestRoom(t *testing.T) { // P12.1, P12.2
	for _, room := range []int{0, 1, 2, 3, 17, 255, 256, 257, 258, 1 << 12, 1 << 20, 1 << 40, math.MaxInt, -1, -2, -256, math.MinInt} {
		m := begin(room)
		m.check(t)
		for i := range m.room + 2 {
			m.add(t, wrong()[i%12])
			m.add(t, plain(1+i%8, i%3))
		}
		m.check(t)
		if len(m.tasks) != m.room {
			t.Fatal(len(m.tasks), m.room)
		}
	}
}

func TestAddGetSet(t *testing.T) { // P12.1, P12.5
	m := begin(4)
	m.set(t, 0, plain(1, 0)) // there is none yet
	for _, x := range wrong() {
		m.add(t, x) // and takes no number
	}
	m.add(t, plain(2, 1))
	m.add(t, full()) // it has exited from the beginning on
	m.add(t, plain(7, 0))
	m.check(t)
	m.set(t, 3, plain(1, 0)) // there is room, but no task
	for _, x := range wrong() {
		m.set(t, 0, x)
		m.set(t, 1, x)   // ErrArg ahead of ErrState
		m.set(t, 3, x)   // ErrNone ahead of ErrArg
		m.set(t, 300, x) // likewise
	}
	for _, id := range strange {
		m.set(t, id, plain(1, 0))
	}
	m.check(t)
	m.set(t, 1, plain(1, 0))
	m.set(t, 1, full())
	for state := 1; state <= 8; state++ {
		x := full()
		x.State = state
		m.set(t, 0, x)
		m.set(t, 2, plain(9-state, state)) // it exits first of all
		m.check(t)
	}
	m.set(t, 0, plain(1, 0)) // it has exited
	m.check(t)
	m.add(t, plain(3, 3)) // the next number, whoever has exited
	m.add(t, wrong()[0])  // ErrArg ahead of ErrFull
	m.add(t, plain(3, 3))
	m.check(t)
}

func TestValues(t *testing.T) { // P12.1: what is handed in isn't kept, what is answered is apart
	b := table.New(1)
	x := full()
	x.State = 1
	b.Add(x)
	want := x
	x.Regs[0], x.Mask[0] = 99, 99
	y, _ := b.Get(0)
	if y != want {
		t.Fatal(y)
	}
	y.Regs[1], y.Mask[1] = 98, 98
	if z, _ := b.Get(0); z != want {
		t.Fatal(z)
	}
	l := b.In(1, want.On)
	l[0] = 5
	if l = b.In(1, want.On); !slices.Equal(l, []int{0}) {
		t.Fatal(l)
	}
}

func TestIn(t *testing.T) { // P12.2
	m := begin(256)
	for i := range 256 {
		m.add(t, plain(1+i*i%8, i%5-1))
	}
	m.check(t)
	edges := append(strange, 0, 1, 2, 8, 9)
	for _, on := range edges {
		m.set(t, 7, plain(5, on))
		for _, state := range edges {
			for _, asked := range edges {
				m.checkIn(t, state, asked)
				m.checkIn(t, 5, asked)
			}
		}
	}
}

func TestJoin(t *testing.T) { // P12.3
	m := begin(6)
	m.join(t, 0, 1) // there is none
	for range 5 {
		m.add(t, plain(1, 0))
	}
	for _, id := range append(strange, 5, 6) {
		m.join(t, id, 1)
		m.join(t, 1, id)
		m.join(t, id, id) // ErrNone ahead of ErrArg
		m.joined(t, id)
	}
	m.set(t, 4, plain(8, 0))
	m.join(t, 4, 4) // ErrArg ahead of ErrState
	m.join(t, 3, 1)
	m.join(t, 3, 4) // ErrState ahead of ErrTwice
	m.join(t, 3, 1)
	m.join(t, 3, 2)
	m.join(t, 3, 3) // ErrArg ahead of ErrTwice
	m.join(t, 0, 1)
	m.join(t, 4, 1) // it has exited: nothing is said of that
	m.join(t, 1, 3) // round
	m.joined(t, 0)
	m.joined(t, 1)
	m.joined(t, 1)
	m.joined(t, 3)
	m.join(t, 3, 2) // it waits no longer, and may again
	m.join(t, 0, 2)
	m.set(t, 2, plain(8, 0))
	m.join(t, 1, 2)
	m.check(t) // joins have changed no task
	m.joined(t, 2)
	m.joined(t, 2)
}

func TestMany(t *testing.T) { // P12.3: all wait for one, the last number's for the first's, and so on
	for _, last := range []int{0, 1, 128, 255} {
		m := begin(256)
		for range 256 {
			m.add(t, plain(5, 0))
		}
		for i := range 256 {
			m.join(t, (i*37+last)%256, last)
		}
		if len(m.waits) != 255 {
			t.Fatal(len(m.waits))
		}
		for on := range 256 {
			m.joined(t, on)
		}
		for id := range 256 {
			m.join(t, id, (id+1)%256)
		}
		for on := range 256 {
			m.joined(t, on)
		}
	}
}

func TestJoinedApart(t *testing.T) { // P12.3
	b := table.New(3)
	for range 3 {
		b.Add(plain(1, 0))
	}
	b.Join(2, 0)
	b.Join(1, 0)
	l := b.Joined(0)
	l[0], l[1] = 7, 8
	b.Join(1, 0)
	b.Join(2, 0)
	if l = b.Joined(0); !slices.Equal(l, []int{1, 2}) {
		t.Error(l)
	}
}

func TestNil(t *testing.T) { // P12.4
	var none *table.Table
	for _, m := range []*model{{b: none}, begin(0)} {
		m.check(t)
		for _, id := range append(strange, 0, 1) {
			m.set(t, id, plain(1, 0))
			m.set(t, id, api.Task{})
			m.join(t, id, id)
			m.join(t, id, 0)
			m.join(t, 0, id)
			m.joined(t, id)
			m.checkIn(t, id, id)
		}
		m.add(t, plain(1, 0))
		m.add(t, full())
		for _, x := range wrong() {
			m.add(t, x)
		}
		m.check(t)
	}
}

// do does a deed at random with the table and with the plain lists.
func (m *model) do(t *testing.T, r *rand.Rand) {
	t.Helper()
	id := func() int {
		if r.Intn(20) == 0 {
			return strange[r.Intn(len(strange))]
		}
		return r.Intn(len(m.tasks) + 2)
	}
	x := plain(1+r.Intn(8), r.Intn(4)-1)
	if x.State == 8 && r.Intn(3) > 0 { // exits are for good: let there be few
		x.State = 5
	}
	x.Regs[r.Intn(4)], x.Prog, x.Pc, x.Reg = r.Int31(), r.Intn(16), r.Intn(64), r.Int()
	if r.Intn(10) == 0 {
		x = wrong()[r.Intn(12)]
	}
	switch r.Intn(7) {
	case 0:
		m.add(t, x)
	case 1:
		m.set(t, id(), x)
	case 2, 3, 4:
		m.join(t, id(), id())
	case 5:
		m.joined(t, id())
	case 6:
		m.check(t)
	}
}

func TestDeeds(t *testing.T) { // P12.1, P12.2, P12.3, P12.5
	for seed := range int64(300) {
		r := rand.New(rand.NewSource(seed))
		m := begin(r.Intn(30))
		for range 300 {
			m.do(t, r)
		}
		m.check(t)
		for on := range m.room {
			m.joined(t, on)
		}
	}
}

func TestShort(t *testing.T) { // P12.3, P12.5: all short rows of deeds on three tasks
	var deeds []func(m *model, t *testing.T)
	for a := range 3 {
		deeds = append(deeds, func(m *model, t *testing.T) { m.joined(t, a) }, func(m *model, t *testing.T) { m.set(t, a, plain(8, 0)) })
		for b := range 3 {
			deeds = append(deeds, func(m *model, t *testing.T) { m.join(t, a, b) })
		}
	}
	n := len(deeds)
	for i := range n * n * n * n {
		m := begin(3)
		for range 3 {
			m.add(t, plain(1, 0))
		}
		for j := i; j > 0; j /= n {
			deeds[j%n](m, t)
		}
		for on := range 3 {
			m.joined(t, on)
		}
		for id, want := range m.tasks {
			if x, ok := m.b.Get(id); x != want || !ok {
				t.Fatal(id, x, ok)
			}
		}
	}
}
