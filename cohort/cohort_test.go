package cohort_test

import (
	"math"
	"math/rand"
	"slices"
	"testing"

	"pinfold/api"
	"pinfold/cohort"
)

// below are numbers that are no lock's, no task's and no socket's.
var below = []int{-1, -2, -3, -1 << 40, math.MinInt}

// strange are numbers that are no lock's.
var strange = append([]int{16, 17, 1 << 10, 1 << 40, math.MaxInt}, below...)

// waiter is a task that waits, and since how many times the lock was given, behind how many in its row.
type waiter struct {
	task, socket int
	gives, ahead int
}

// plain is a lock by a second reading of the chapter: who waits stands in one list, by who came first.
type plain struct {
	owned  bool
	owner  int
	socket int
	passes int
	came   []waiter
	round  []int // the sockets of those that wait
	gives  int   // how often it was given
	stays  int   // how many hand-offs, one behind the other, stayed in a socket while another one waited
}

// of are those of the socket that wait.
func (p *plain) of(socket int) []waiter {
	return slices.DeleteFunc(slices.Clone(p.came), func(w waiter) bool { return w.socket != socket })
}

// row are the tasks that wait, as they are told.
func (p *plain) row() []int {
	var l []int
	for _, s := range p.round {
		for _, w := range p.of(s) {
			l = append(l, w.task)
		}
	}
	return l
}

// next is the socket in which the next one waits; false: nobody waits.
func (p *plain) next() (int, bool) {
	i := slices.IndexFunc(p.round, func(s int) bool { return s != p.socket })
	switch here := slices.Contains(p.round, p.socket); {
	case here && (i < 0 || p.passes < 3):
		return p.socket, true
	case i >= 0:
		return p.round[i], true
	}
	return 0, false
}

// hand hands the lock to the first of the socket that waits.
func (p *plain) hand(socket int) waiter {
	if socket == p.socket {
		p.passes++
	} else {
		p.passes = 0
		if i := slices.Index(p.round, p.socket); i >= 0 {
			p.round = append(slices.Delete(p.round, i, i+1), p.socket)
		}
	}
	w := p.of(socket)[0]
	p.owner, p.socket = w.task, socket
	p.came = slices.DeleteFunc(p.came, func(x waiter) bool { return x == w })
	if len(p.of(socket)) == 0 {
		p.round = slices.DeleteFunc(p.round, func(s int) bool { return s == socket })
	}
	return w
}

// model is plain locks, beside those that are to be like them.
type model struct {
	l       *cohort.Locks
	locks   []*plain
	tasks   map[int]int // all that were ever spoken of
	sockets map[int]int
}

func begin(n int) *model {
	m := &model{l: cohort.New(n), tasks: map[int]int{0: 1, 1: 1}, sockets: map[int]int{}}
	for range n {
		m.locks = append(m.locks, &plain{})
	}
	return m
}

func (m *model) has(lock int) bool { return lock >= 0 && lock < len(m.locks) }

func (m *model) take(t *testing.T, lock, task, socket int) bool { // P14.2
	t.Helper()
	m.tasks[task]++
	ok, want := false, api.OK
	var p *plain
	if m.has(lock) {
		p = m.locks[lock]
	}
	switch {
	case p == nil:
		want = api.ErrNone
	case task < 0 || socket < 0:
		want = api.ErrArg
	case p.owned && p.owner == task:
		want = api.ErrOwner
	case slices.Contains(p.row(), task):
		want = api.ErrTwice
	case !p.owned:
		p.owned, p.owner, p.socket, p.passes, ok = true, task, socket, 0, true
		m.sockets[socket]++
	default:
		if len(p.of(socket)) == 0 {
			p.round = append(p.round, socket)
		}
		p.came = append(p.came, waiter{task, socket, p.gives, len(p.of(socket))})
		m.sockets[socket]++
	}
	if got, e := m.l.Take(lock, task, socket); got != ok || e != want {
		t.Fatalf("Take(%d, %d, %d): %t, %d, not %t, %d", lock, task, socket, got, e, ok, want)
	}
	return ok
}

func (m *model) give(t *testing.T, lock, task int) (next int) { // P14.3
	t.Helper()
	m.tasks[task]++
	ok, want := false, api.OK
	switch {
	case !m.has(lock):
		want = api.ErrNone
	case !m.locks[lock].owned || m.locks[lock].owner != task:
		want = api.ErrOwner
	default:
		next, ok = m.goesOn(t, m.locks[lock])
	}
	if got, told, e := m.l.Give(lock, task); got != next || told != ok || e != want {
		t.Fatalf("Give(%d, %d): %d, %t, %d, not %d, %t, %d", lock, task, got, told, e, next, ok, want)
	}
	return next
}

// goesOn lets the plain lock go on to the next one, and checks what follows of it.
func (m *model) goesOn(t *testing.T, p *plain) (int, bool) {
	t.Helper()
	p.gives++
	socket, ok := p.next()
	if !ok {
		*p = plain{gives: p.gives}
		return 0, false
	}
	if socket != p.socket || len(p.round) == 1 { // P14.6
		p.stays = 0
	} else if p.stays++; p.stays > 3 {
		t.Fatalf("%d hand-offs stayed while others waited", p.stays)
	}
	w := p.hand(socket)
	others := len(m.sockets) - 1
	if n := p.gives - w.gives - 1; n > w.ahead+(w.ahead+1)*others*4 { // P14.7: those ahead of the one by which it is told
		t.Fatalf("%v of %d sockets was told behind %d others", w, others+1, n)
	}
	return w.task, true
}

// check checks that the locks are the plain ones, in all that changes nothing.
func (m *model) check(t *testing.T) { // P14.4, P14.5
	t.Helper()
	if m.l.Len() != len(m.locks) {
		t.Fatalf("Len %d, not %d", m.l.Len(), len(m.locks))
	}
	owned := map[int][]int{}
	for n, p := range m.locks {
		if p.owned {
			owned[p.owner] = append(owned[p.owner], n)
		}
		m.checkLock(t, n, *p)
	}
	for task := range m.tasks {
		if l := m.l.Owned(task); !slices.Equal(l, owned[task]) {
			t.Fatalf("Owned(%d): %v, not %v", task, l, owned[task])
		}
	}
}

// checkLock checks what is told of the lock of that number.
func (m *model) checkLock(t *testing.T, n int, p plain) {
	t.Helper()
	if owner, ok := m.l.Owner(n); owner != p.owner || ok != p.owned {
		t.Fatalf("Owner(%d): %d, %t, not %d, %t", n, owner, ok, p.owner, p.owned)
	}
	if s := m.l.Socket(n); s != p.socket {
		t.Fatalf("Socket(%d): %d, not %d", n, s, p.socket)
	}
	if l := m.l.Waiting(n); !slices.Equal(l, p.row()) {
		t.Fatalf("Waiting(%d): %v, not %v", n, l, p.row())
	}
}

// takes lets tasks of these sockets take lock 0, the first one with the number from.
func (m *model) takes(t *testing.T, from int, sockets ...int) {
	t.Helper()
	for i, s := range sockets {
		m.take(t, 0, from+i, s)
		m.check(t)
	}
}

// gives lets lock 0 be given till nobody has it, and checks who had it in turn.
func (m *model) gives(t *testing.T, want ...int) {
	t.Helper()
	var told []int
	for m.locks[0].owned {
		told = append(told, m.locks[0].owner)
		m.give(t, 0, m.locks[0].owner)
		m.check(t)
	}
	if !slices.Equal(told, want) {
		t.Fatalf("had it: %v, not %v", told, want)
	}
}

func TestExample(t *testing.T) { // P14.2, P14.3
	l := cohort.New(1)
	for task, socket := range []int{0, 1, 0} {
		if ok, e := l.Take(0, task+1, socket); ok != (task == 0) || e != api.OK {
			t.Error(task, ok, e)
		}
	}
	if w := l.Waiting(0); !slices.Equal(w, []int{2, 3}) {
		t.Error(w)
	}
	if next, ok, e := l.Give(0, 1); next != 3 || !ok || e != api.OK {
		t.Error(next, ok, e)
	}
	if s := l.Socket(0); s != 0 {
		t.Error(s)
	}
	if next, ok, e := l.Give(0, 3); next != 2 || !ok || e != api.OK {
		t.Error(next, ok, e)
	}
	if s := l.Socket(0); s != 1 {
		t.Error(s)
	}
	if next, ok, e := l.Give(0, 2); next != 0 || ok || e != api.OK {
		t.Error(next, ok, e)
	}
	if s := l.Socket(0); s != 0 {
		t.Error(s)
	}
}

func TestNew(t *testing.T) { // P14.1
	for n, want := range map[int]int{
		0: 0, 1: 1, 2: 2, 15: 15, 16: 16, 17: 16, 1 << 40: 16, math.MaxInt: 16, -1: 0, -16: 0, math.MinInt: 0,
	} {
		m := begin(want)
		m.l = cohort.New(n)
		m.check(t)
		for lock := range 18 {
			m.take(t, lock, lock, 3)
			m.take(t, lock, 40, 4)
			m.check(t)
		}
		for lock := range 18 {
			m.give(t, lock, lock)
			m.check(t)
		}
	}
}

func TestNone(t *testing.T) { // P14.2, P14.3, P14.4
	for _, n := range []int{0, 1, 16} {
		m := begin(n)
		for range 2 { // while nobody has one, and while somebody does
			for _, lock := range append(strange, n, n+1) {
				m.take(t, lock, 0, 0)
				m.take(t, lock, -1, 0) // ErrNone ahead of ErrArg
				m.take(t, lock, 0, -1)
				m.give(t, lock, 0)
				m.give(t, lock, -1)
				m.checkLock(t, lock, plain{})
			}
			m.check(t)
			m.take(t, 0, 0, 7)
			m.take(t, n-1, 0, 7)
		}
	}
}

func TestWrong(t *testing.T) { // P14.2, P14.3
	m := begin(2)
	for range 3 { // while nobody has it, while somebody does, while some wait
		for _, n := range below {
			m.take(t, 0, n, 0)
			m.take(t, 0, 0, n) // ErrArg ahead of ErrOwner, and of ErrTwice
			m.take(t, 0, 1, n)
			m.take(t, 0, 2, n)
			m.take(t, 0, n, n)
			m.give(t, 0, n) // who is nobody doesn't have what nobody has
		}
		for task := 1; task < 5; task++ {
			m.give(t, 0, task)
			m.give(t, 1, task)
		}
		m.check(t)
		m.take(t, 0, 0, 0)
		m.check(t)
		m.take(t, 0, 0, 0) // ErrOwner
		m.take(t, 0, 0, 1)
		m.check(t)
		if len(m.locks[0].came) == 0 {
			m.take(t, 0, 1, 0)
			m.take(t, 0, 2, 1)
		}
		for task := range 3 {
			for socket := range 4 {
				m.take(t, 0, task, socket) // ErrTwice in whichever row
			}
		}
		m.check(t)
	}
	m.gives(t, 0, 1, 2)
	m.give(t, 0, 2)
	m.give(t, 0, 0)
	m.check(t)
}

func TestAgain(t *testing.T) { // P14.2: who gave it may take it anew, as the last one
	m := begin(1)
	m.takes(t, 1, 0, 0, 1, 0)
	for _, want := range []int{2, 4, 1, 3, 2, 4, 1, 2, 3, 4} {
		p := m.locks[0]
		task, socket := p.owner, p.socket
		if next := m.give(t, 0, task); next != want {
			t.Fatal(task, next, want)
		}
		m.take(t, 0, task, socket)
		m.check(t)
	}
}

func TestBudget(t *testing.T) { // P14.3, P14.6
	m := begin(1)
	m.takes(t, 0, 5, 6, 5, 5, 5, 5, 5, 5)
	m.gives(t, 0, 2, 3, 4, 1, 5, 6, 7)

	m.takes(t, 0, 5, 5, 5, 5, 5, 5, 5) // the only row: as many as there are
	for range 5 {
		m.give(t, 0, m.locks[0].owner)
	}
	m.takes(t, 7, 5, 6, 5, 6)
	m.gives(t, 5, 8, 10, 6, 7, 9) // five passes are no fewer than three

	m.takes(t, 0, 5, 5, 5, 5, 5)
	for range 2 {
		m.give(t, 0, m.locks[0].owner)
	}
	m.takes(t, 5, 6, 5)
	m.gives(t, 2, 3, 5, 4, 6) // what was passed ahead of the other one counts

	m.takes(t, 0, 5, 5, 5)
	m.gives(t, 0, 1, 2)
	m.takes(t, 0, 5, 6, 5, 5, 5, 5) // passes are 0 anew, though it is in the same socket
	m.gives(t, 0, 2, 3, 4, 1, 5)
}

func TestRound(t *testing.T) { // P14.3, P14.4
	m := begin(1)
	m.takes(t, 0, 1, 3, 2, 1, 3, 2, 1, 9, 1, 1, 3) // 3: 1 4 10; 2: 2 5; 1: 3 6 8 9; 9: 7
	if l := m.l.Waiting(0); !slices.Equal(l, []int{1, 4, 10, 2, 5, 3, 6, 8, 9, 7}) {
		t.Fatal(l)
	}
	for range 4 {
		m.give(t, 0, m.locks[0].owner)
	}
	if l := m.l.Waiting(0); !slices.Equal(l, []int{4, 10, 2, 5, 7, 9}) { // 1's row stood within the round, and is behind it
		t.Fatal(l)
	}
	m.takes(t, 11, 3, 3, 3, 2)
	m.gives(t, 1, 4, 10, 11, 2, 5, 14, 7, 9, 12, 13)

	m.takes(t, 0, 0, 4, 5, 4, 6)
	for range 3 {
		m.give(t, 0, m.locks[0].owner)
	}
	m.takes(t, 5, 0, 4, 5) // the row of 4 was gone: it is behind that of 6 now
	if l := m.l.Waiting(0); !slices.Equal(l, []int{4, 5, 6, 7}) {
		t.Fatal(l)
	}
	m.gives(t, 2, 7, 4, 5, 6)
}

func TestManySockets(t *testing.T) { // P14.3: each in its turn
	m := begin(1)
	for i := range 40 {
		for s := range 12 {
			m.take(t, 0, 100*i+s, s)
		}
	}
	for turn := 0; m.locks[0].owned; turn++ {
		if want := turn/4%12 + 100*(turn/48*4+turn%4); m.locks[0].owner != want {
			t.Fatal(turn, m.locks[0].owner, want)
		}
		m.give(t, 0, m.locks[0].owner)
		m.check(t)
	}
}

func TestAnyNumbers(t *testing.T) { // P14.1
	any := []int{0, 1, 255, 256, 1 << 31, 1 << 40, math.MaxInt - 1, math.MaxInt}
	for _, first := range any {
		m := begin(1)
		m.take(t, 0, first, first)
		for i, n := range any {
			m.take(t, 0, n, any[len(any)-1-i])
			m.take(t, 0, n, first)
		}
		m.check(t)
		for m.locks[0].owned {
			m.give(t, 0, m.locks[0].owner)
			m.check(t)
		}
	}
}

func TestLocksAreApart(t *testing.T) { // P14.2, P14.3, P14.4, P14.5
	m := begin(16)
	for _, lock := range []int{9, 2, 15, 0} {
		m.take(t, lock, 5, lock) // in another socket each
		m.check(t)
	}
	if l := m.l.Owned(5); !slices.Equal(l, []int{0, 2, 9, 15}) {
		t.Error(l)
	}
	for lock := range 16 {
		m.take(t, lock, 6, 1)
		m.take(t, lock, 7, 2) // it waits for all of them
		m.check(t)
	}
	for lock := range 16 {
		m.give(t, lock, 5)
		m.give(t, lock, 6)
		m.check(t)
	}
	other := begin(16) // what is done to some locks changes no others
	other.check(t)
	other.take(t, 3, 7, 2)
	m.check(t)
	other.check(t)
}

func TestNil(t *testing.T) { // P14.4
	var m model
	m.tasks, m.sockets = map[int]int{}, map[int]int{}
	for _, n := range append(strange, 0, 1, 15) {
		m.take(t, n, 0, 0)
		m.take(t, n, -1, 0)
		m.take(t, 0, n, n)
		m.give(t, n, 0)
		m.give(t, 0, n)
		m.checkLock(t, n, plain{})
	}
	m.check(t)
}

func TestAnswersAreApart(t *testing.T) { // P14.4
	m := begin(3)
	for lock := range 3 {
		for task := range 9 {
			m.take(t, lock, task, task%(lock+1)) // in one row, in two, in three
		}
	}
	for _, l := range [][]int{m.l.Waiting(0), m.l.Waiting(1), m.l.Waiting(2), m.l.Owned(0)} {
		l = l[:cap(l)]
		for i := range l {
			l[i] = -5
		}
		m.check(t)
	}
	m.take(t, 0, 9, 0) // where what was told is written over
	m.take(t, 0, 10, 0)
	m.check(t)
	l := m.l.Waiting(0)
	was := slices.Clone(l)
	m.gives(t, 0, 1, 2, 3, 4, 5, 6, 7, 8, 9, 10)
	if !slices.Equal(l, was) {
		t.Error(l)
	}
}

// deed does one of lock 0 by its number: the owner gives it, or the next task of a socket takes it; false: nobody has it to give.
func (m *model) deed(t *testing.T, n int, task *int) bool {
	t.Helper()
	if n > 0 {
		*task++
		m.take(t, 0, *task, n)
		return true
	}
	if !m.locks[0].owned {
		return false
	}
	m.give(t, 0, m.locks[0].owner)
	return true
}

func TestEveryStory(t *testing.T) { // P14.2 to P14.7: all of so many deeds of tasks of so many sockets
	for _, w := range []struct{ sockets, deeds int }{{1, 12}, {2, 10}, {3, 8}, {4, 7}} {
		count := 1
		for range w.deeds {
			count *= w.sockets + 1
		}
		for story := range count {
			m, task := begin(1), 0
			for rest := story; rest > 0; rest /= w.sockets + 1 {
				if !m.deed(t, rest%(w.sockets+1), &task) {
					break
				}
			}
			m.check(t)
			for m.locks[0].owned {
				m.give(t, 0, m.locks[0].owner)
			}
			m.check(t)
		}
	}
}

// do does a deed at random, with a lock of which so many tasks want to have it.
func (m *model) do(t *testing.T, r *rand.Rand, tasks, sockets int) {
	t.Helper()
	lock, task := r.Intn(len(m.locks)+1), r.Intn(tasks)
	switch n := r.Intn(12); {
	case n == 0:
		m.take(t, lock, task-1, r.Intn(sockets)-1)
	case n == 1:
		m.give(t, lock, task-1)
	case n < 7:
		m.take(t, lock, task, r.Intn(sockets))
	case m.has(lock) && m.locks[lock].owned:
		m.give(t, lock, m.locks[lock].owner)
	}
}

func TestDeeds(t *testing.T) { // P14.2 to P14.7
	for seed := range int64(300) {
		r := rand.New(rand.NewSource(seed))
		m := begin(1 + r.Intn(4))
		tasks, sockets := 1+r.Intn(40), 1+r.Intn(5)
		for i := range 400 {
			m.do(t, r, tasks, sockets)
			if i%10 == 0 {
				m.check(t)
			}
		}
		m.check(t)
	}
}

func TestCrowd(t *testing.T) { // P14.6, P14.7: all tasks want to have it at all times
	for seed := range int64(60) {
		r := rand.New(rand.NewSource(seed))
		m := begin(1)
		tasks, sockets := 2+r.Intn(50), 1+r.Intn(6)
		waits := func(task int) { // the most in one socket
			m.take(t, 0, task, max(r.Intn(2*sockets)-sockets, 0))
		}
		for task := range tasks {
			waits(task)
		}
		for range 600 {
			was := m.locks[0].owner
			m.give(t, 0, was)
			waits(was)
		}
		m.check(t)
		for m.locks[0].owned {
			m.give(t, 0, m.locks[0].owner)
		}
		m.check(t)
	}
}
