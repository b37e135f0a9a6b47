package lint_test

import (
	"math"
	"math/rand"
	"slices"
	"testing"

	"pinfold/api"
	"pinfold/exec"
	"pinfold/lint"
	"pinfold/prog"
)

// wild are numbers that are no places, and no numbers of locks.
var wild = []int{math.MinInt, math.MinInt32, -64, -1, 64, 65, 128, 1 << 16, math.MaxInt32, 1 << 32, math.MaxInt}

// code is a program that has these instructions.
func code(l ...api.Ins) api.Prog { return api.Prog{Code: l} }

// parse is the program of these lines.
func parse(t *testing.T, lines string) api.Prog {
	t.Helper()
	p, e, line := prog.Parse("prog 0\n" + lines)
	if e != api.OK {
		t.Fatal(lines, e, line)
	}
	return p
}

// next is what the document says of the places behind an instruction.
func next(p api.Prog, pc int) []int {
	if pc < 0 || pc >= len(p.Code) {
		return nil
	}
	x := p.Code[pc]
	var l []int
	for to := range p.Code {
		goesOn := to == pc+1 && x.Op != api.InsJump && x.Op != api.InsExit
		goesTo := to == int(x.N) && (x.Op == api.InsJump || x.Op == api.InsJnz)
		if goesOn || goesTo {
			l = append(l, to)
		}
	}
	return l
}

// reach is what the document says of the places that can be come to: rounds of steps till nothing is new.
func reach(p api.Prog) []bool {
	can := make([]bool, len(p.Code))
	can[0] = true
	for range p.Code {
		for pc := range p.Code {
			for _, to := range next(p, pc) {
				can[to] = can[to] || can[pc]
			}
		}
	}
	return can
}

// behind is the locks behind an instruction.
func behind(x api.Ins, s uint16, locks int) uint16 {
	switch {
	case x.Op == api.InsLock && int(x.N) < locks:
		s |= 1 << x.N
	case x.Op == api.InsUnlock:
		s &= ^uint16(1 << x.N)
	}
	return s
}

// state is where a task is, and the locks that it has.
type state struct {
	pc int
	s  uint16
}

// held is, of each place, all sets of locks that a task may come there with: all its ways, gone one by one.
func held(p api.Prog, locks int) []map[uint16]bool {
	been := make([]map[uint16]bool, len(p.Code))
	for pc := range been {
		been[pc] = map[uint16]bool{}
	}
	left := []state{{}}
	for len(left) > 0 {
		at := left[0]
		left = left[1:]
		if been[at.pc][at.s] {
			continue
		}
		been[at.pc][at.s] = true
		for _, to := range next(p, at.pc) {
			left = append(left, state{to, behind(p.Code[at.pc], at.s, locks)})
		}
	}
	return been
}

// mayMust is, of each place, what a task has there in one of its ways, and what it has in all.
func mayMust(p api.Prog, locks int) (may, must []uint16) {
	for _, sets := range held(p, locks) {
		some, all := uint16(0), ^uint16(0)
		for s := range sets {
			some, all = some|s, all&s
		}
		if len(sets) == 0 {
			all = 0
		}
		may, must = append(may, some), append(must, all)
	}
	return may, must
}

// stops are the instructions that a way is straight up to.
var stops = []int{api.InsUnlock, api.InsYield, api.InsJoin, api.InsSleep, api.InsExit, api.InsLock}

// straight is what the document says of the longest way from pc on, of which so many instructions may be gone yet; -1, if that is too few.
func straight(p api.Prog, pc, left int, known map[[2]int]int) int {
	if slices.Contains(stops, p.Code[pc].Op) {
		return 0
	}
	if left == 0 {
		return -1
	}
	if n, is := known[[2]int{pc, left}]; is {
		return n
	}
	longest := 0
	for _, to := range next(p, pc) {
		n := straight(p, to, left-1, known)
		if n < 0 {
			longest = n
			break
		}
		longest = max(longest, n+1)
	}
	known[[2]int{pc, left}] = longest
	return longest
}

// all holds everything that the package tells of p against what the document says.
func all(t *testing.T, p api.Prog, locks int) {
	t.Helper()
	kept := api.Prog{Prio: p.Prio, Code: slices.Clone(p.Code)}
	can := reach(p)
	var idle, leaks []int
	may, must := mayMust(p, min(max(locks, 0), 16))
	known := map[[2]int]int{}
	for pc, x := range p.Code {
		if got := lint.Next(p, pc); !slices.Equal(got, next(p, pc)) {
			t.Fatalf("Next(%v, %d) = %v, want %v", p, pc, got, next(p, pc))
		}
		if got, want := lint.Straight(p, pc), straight(p, pc, len(p.Code), known); got != want {
			t.Fatalf("Straight(%v, %d) = %d, want %d", p, pc, got, want)
		}
		if !can[pc] {
			idle = append(idle, pc)
		}
		if can[pc] && x.Op == api.InsExit && may[pc] != 0 {
			leaks = append(leaks, pc)
		}
	}
	if got := lint.Reach(p); !slices.Equal(got, can) {
		t.Fatalf("Reach(%v) = %v, want %v", p, got, can)
	}
	if got := lint.Idle(p); !slices.Equal(got, idle) {
		t.Fatalf("Idle(%v) = %v, want %v", p, got, idle)
	}
	if got := lint.May(p, locks); !slices.Equal(got, may) {
		t.Fatalf("May(%v, %d) = %v, want %v", p, locks, got, may)
	}
	if got := lint.Must(p, locks); !slices.Equal(got, must) {
		t.Fatalf("Must(%v, %d) = %v, want %v", p, locks, got, must)
	}
	if got := lint.Leaks(p, locks); !slices.Equal(got, leaks) {
		t.Fatalf("Leaks(%v, %d) = %v, want %v", p, locks, got, leaks)
	}
	if !prog.Same(p, kept) {
		t.Fatalf("changed: %v, before %v", p, kept)
	}
}

// bricks is a few instructions of each kind, for programs of so many places.
func bricks(places int) []api.Ins {
	l := []api.Ins{{Op: api.InsOut}, {Op: api.InsYield}, {Op: api.InsExit}, {Op: api.InsLock}, {Op: api.InsLock, N: 1}, {Op: api.InsUnlock}, {Op: api.InsUnlock, N: 1}}
	for to := range places {
		l = append(l, api.Ins{Op: api.InsJump, N: int32(to)}, api.Ins{Op: api.InsJnz, N: int32(to)})
	}
	return l
}

// programs ranges over all programs of so many of the bricks that may be.
func programs(places int) func(func(api.Prog) bool) {
	return func(yield func(api.Prog) bool) {
		l, at := bricks(places), make([]int, places)
		for {
			p := code(make([]api.Ins, places)...)
			for i, n := range at {
				p.Code[i] = l[n]
			}
			if e, _ := prog.Check(p); e == api.OK && !yield(p) {
				return
			}
			i := 0
			for i < places && at[i] == len(l)-1 {
				at[i] = 0
				i++
			}
			if i == places {
				return
			}
			at[i]++
		}
	}
}

// randomProg is a program that may be, of any instructions, with locks among few.
func randomProg(rng *rand.Rand) api.Prog {
	places := 1 + rng.Intn(12)
	if rng.Intn(8) == 0 {
		places = 1 + rng.Intn(api.MaxCode)
	}
	locks := 1 + rng.Intn(16)
	l := make([]api.Ins, places)
	for i := range l {
		l[i] = randomIns(rng, places, locks)
	}
	if op := l[places-1].Op; op != api.InsJump && op != api.InsExit {
		l[places-1] = api.Ins{Op: api.InsExit}
	}
	return code(l...)
}

// randomIns is an instruction of a program of so many places, and with so many locks.
func randomIns(rng *rand.Rand, places, locks int) api.Ins {
	x := api.Ins{Op: 1 + rng.Intn(14)}
	if rng.Intn(2) == 0 {
		x.Op = []int{api.InsSet, api.InsSub, api.InsJump, api.InsJnz, api.InsLock, api.InsUnlock}[rng.Intn(6)]
	}
	if x.Op != api.InsJump && x.Op != api.InsYield {
		x.A = rng.Intn(api.Regs)
	}
	switch x.Op {
	case api.InsAdd, api.InsSub, api.InsJoin:
		x.B = rng.Intn(api.Regs)
	case api.InsSet:
		x.N = int32(rng.Intn(5) - 2)
	case api.InsJump, api.InsJnz:
		x.N = int32(rng.Intn(places))
	case api.InsLock, api.InsUnlock:
		x.N = int32(rng.Intn(locks))
	case api.InsSpawn, api.InsMask:
		x.N = int32(rng.Intn(16))
	}
	return x
}

// P26.1: Next of each instruction.
func TestNextByHand(t *testing.T) {
	p := parse(t, "\tset r0 1\n\tjnz r0 0\n\tjnz r0 3\n\tjnz r0 3\n\tjump 4\n\tjump 1\n\tyield\n\tspawn r0 8\n\tjoin r0 r1\n\tlock r0 3\n\tunlock r0 3\n\tsleep r0\n\tmask r0 3\n\tout r0\n\tadd r0 r1\n\tsub r0 r1\n\texit r0\n")
	for pc, want := range [][]int{{1}, {0, 2}, {3}, {3, 4}, {4}, {1}, {7}, {8}, {9}, {10}, {11}, {12}, {13}, {14}, {15}, {16}, nil} {
		if got := lint.Next(p, pc); !slices.Equal(got, want) {
			t.Errorf("Next(%d) = %v, want %v", pc, got, want)
		}
	}
	for _, pc := range append(wild, 17) {
		if got := lint.Next(p, pc); len(got) != 0 {
			t.Errorf("Next(%d) = %v", pc, got)
		}
	}
}

// P26.1: the fork of which both arms are one place, at the end of the greatest program.
func TestNextLast(t *testing.T) {
	l := slices.Repeat([]api.Ins{{Op: api.InsOut}}, api.MaxCode)
	l[61], l[62], l[63] = api.Ins{Op: api.InsJnz, N: 63}, api.Ins{Op: api.InsJnz, N: 63}, api.Ins{Op: api.InsJump, N: 63}
	p := code(l...)
	for pc, want := range map[int][]int{60: {61}, 61: {62, 63}, 62: {63}, 63: {63}} {
		if got := lint.Next(p, pc); !slices.Equal(got, want) {
			t.Errorf("Next(%d) = %v, want %v", pc, got, want)
		}
	}
}

// P26.2, P26.3: the chapter's example.
func TestExample(t *testing.T) {
	p := parse(t, "\tlock r0 2\n\tout r0\n\texit r0\n")
	for _, locks := range []int{3, 4, 16, 17, math.MaxInt} {
		may, must, leaks := lint.May(p, locks), lint.Must(p, locks), lint.Leaks(p, locks)
		if !slices.Equal(may, []uint16{0, 4, 4}) || !slices.Equal(must, []uint16{0, 4, 4}) || !slices.Equal(leaks, []int{2}) {
			t.Error(locks, may, must, leaks)
		}
	}
	for _, locks := range []int{2, 1, 0, -1, math.MinInt} { // there is no lock 2
		may, must, leaks := lint.May(p, locks), lint.Must(p, locks), lint.Leaks(p, locks)
		if !slices.Equal(may, make([]uint16, 3)) || !slices.Equal(must, make([]uint16, 3)) || len(leaks) != 0 {
			t.Error(locks, may, must, leaks)
		}
	}
}

// P26.1 to P26.3: a program with a fork, a ring, an end that isn't come to, and a leak.
func TestByHand(t *testing.T) {
	p := parse(t, "\tlock r0 0\n\tjnz r1 4\n\tlock r0 15\n\tjump 1\n\tunlock r0 0\n\texit r0\n\tlock r0 3\n\texit r0\n")
	may, must := []uint16{0, 1 | 1<<15, 1 | 1<<15, 1 | 1<<15, 1 | 1<<15, 1 << 15, 0, 0}, []uint16{0, 1, 1, 1 | 1<<15, 1, 0, 0, 0}
	if got := lint.May(p, 16); !slices.Equal(got, may) {
		t.Error(got, may)
	}
	if got := lint.Must(p, 16); !slices.Equal(got, must) {
		t.Error(got, must)
	}
	if got := lint.Leaks(p, 16); !slices.Equal(got, []int{5}) {
		t.Error(got)
	}
	if got := lint.Leaks(p, 15); len(got) != 0 {
		t.Error(got)
	}
	if got := lint.Idle(p); !slices.Equal(got, []int{6, 7}) {
		t.Error(got)
	}
	if got := lint.Reach(p); !slices.Equal(got, []bool{true, true, true, true, true, true, false, false}) {
		t.Error(got)
	}
}

// P26.2: nothing is had for sure at the first place, even if all that come back there have a lock.
func TestFirst(t *testing.T) {
	p := parse(t, "\tout r0\n\tlock r0 1\n\tjump 0\n")
	if may, must := lint.May(p, 2), lint.Must(p, 2); !slices.Equal(may, []uint16{2, 2, 2}) || !slices.Equal(must, []uint16{0, 0, 2}) {
		t.Error(may, must)
	}
}

// P26.3: Straight of ways, forks and rings.
func TestStraightByHand(t *testing.T) {
	p := parse(t, "\tset r0 1\n\tjnz r0 4\n\tout r0\n\tmask r0 1\n\tspawn r0 1\n\tlock r0 1\n\tadd r0 r1\n\tjnz r0 6\n\texit r0\n")
	for pc, want := range []int{5, 4, 3, 2, 1, 0, -1, -1, 0} {
		if got := lint.Straight(p, pc); got != want {
			t.Errorf("Straight(%d) = %d, want %d", pc, got, want)
		}
	}
	for _, pc := range append(wild, 9) {
		if got := lint.Straight(p, pc); got != 0 {
			t.Errorf("Straight(%d) = %d", pc, got)
		}
	}
	for _, stop := range []string{"unlock r0 1", "yield", "join r0 r1", "sleep r0", "exit r0", "lock r0 1"} {
		if got := lint.Straight(parse(t, "\tout r0\n\t"+stop+"\n\texit r0\n"), 0); got != 1 {
			t.Errorf("ahead of %s: %d", stop, got)
		}
	}
	if got := lint.Straight(parse(t, "\tjump 0\n"), 0); got != -1 {
		t.Error(got)
	}
	long := code(append(slices.Repeat([]api.Ins{{Op: api.InsOut}}, api.MaxCode-1), api.Ins{Op: api.InsExit})...)
	if got := lint.Straight(long, 0); got != api.MaxCode-1 {
		t.Error(got)
	}
	if got := lint.Straight(long, api.MaxCode-1); got != 0 {
		t.Error(got)
	}
	long.Code[api.MaxCode-1] = api.Ins{Op: api.InsJump, N: api.MaxCode - 1}
	if got := lint.Straight(long, 0); got != -1 {
		t.Error(got)
	}
}

// P26.1 to P26.3: all short programs, with no, one and two locks.
func TestAllShort(t *testing.T) {
	for places := 1; places <= 4; places++ {
		n := 0
		for p := range programs(places) {
			all(t, p, n%4-1)
			if places < 4 {
				all(t, p, 1)
				all(t, p, 2)
			}
			n++
		}
	}
}

// P26.2: of all rows of sets that go together as the chapter says, May is the least, and Must the greatest.
func TestLeastGreatest(t *testing.T) {
	const locks = 2
	for places := 1; places <= 3; places++ {
		for p := range programs(places) {
			may, must := lint.May(p, locks), lint.Must(p, locks)
			mays, musts := 0, 0
			for n := range 1 << (locks * places) {
				sets := make([]uint16, places)
				for pc := range sets {
					sets[pc] = uint16(n>>(locks*pc)) & (1<<locks - 1)
				}
				if together(p, sets, locks, 0, func(a, b uint16) uint16 { return a | b }) {
					mays++
					within(t, p, may, sets)
				}
				if together(p, sets, locks, 1<<locks-1, func(a, b uint16) uint16 { return a & b }) {
					musts++
					within(t, p, sets, must)
				}
			}
			if mays == 0 || musts == 0 || !together(p, may, locks, 0, func(a, b uint16) uint16 { return a | b }) || !together(p, must, locks, 1<<locks-1, func(a, b uint16) uint16 { return a & b }) {
				t.Fatal(p, may, must, mays, musts)
			}
		}
	}
}

// together tells whether sets go together: at each place that can be come to, what comes there is joined, from none on; with nothing coming to the first place from outside.
func together(p api.Prog, sets []uint16, locks int, none uint16, join func(a, b uint16) uint16) bool {
	can := reach(p)
	for pc := range sets {
		want := none
		if pc == 0 {
			want = join(none, 0)
		}
		for before, x := range p.Code {
			if can[before] && slices.Contains(next(p, before), pc) {
				want = join(want, behind(x, sets[before], locks))
			}
		}
		if !can[pc] {
			want = 0
		}
		if sets[pc] != want {
			return false
		}
	}
	return true
}

// within fails if one of the less sets has what the greater one hasn't.
func within(t *testing.T, p api.Prog, less, greater []uint16) {
	t.Helper()
	for pc := range less {
		if less[pc]&^greater[pc] != 0 {
			t.Fatalf("%v: %v isn't within %v", p, less, greater)
		}
	}
}

// P26.1 to P26.3, P26.5: programs at random; Must is among May.
func TestRandom(t *testing.T) {
	rng := rand.New(rand.NewSource(26))
	numbers := append([]int{0, 1, 2, 3, 8, 15, 16, 17}, wild...)
	for range 6000 {
		p := randomProg(rng)
		if len(p.Code) > 20 { // few locks: else the ways, gone one by one, are too many
			for i, x := range p.Code {
				if x.Op == api.InsLock || x.Op == api.InsUnlock {
					p.Code[i].N = x.N%4 + 12*(x.N/12%2)
				}
			}
		}
		locks := numbers[rng.Intn(len(numbers))]
		all(t, p, locks)
		within(t, p, lint.Must(p, locks), lint.May(p, locks))
	}
}

// P26.1 to P26.3: the longest programs: straight on, round and round, and with a fork at each place.
func TestLongest(t *testing.T) {
	for _, last := range []api.Ins{{Op: api.InsExit}, {Op: api.InsJump}, {Op: api.InsJump, N: 63}, {Op: api.InsJump, N: 1}} {
		for _, x := range []api.Ins{{Op: api.InsOut}, {Op: api.InsJnz}, {Op: api.InsJnz, N: 63}, {Op: api.InsJnz, N: 62}, {Op: api.InsLock, N: 15}, {Op: api.InsUnlock, N: 15}} {
			l := append(slices.Repeat([]api.Ins{x}, api.MaxCode-1), last)
			l[1] = api.Ins{Op: api.InsLock, N: 15}
			all(t, code(l...), 16)
			l[0] = api.Ins{Op: api.InsJump, N: 63}
			all(t, code(l...), 16)
		}
	}
}

// P26.4, P26.5: what a task does is among what Next says, and at each of its instructions it has the locks that Must says, and none that May doesn't.
func TestTasks(t *testing.T) {
	rng := rand.New(rand.NewSource(27))
	for range 20000 {
		p, locks := randomProg(rng), rng.Intn(17)
		may, must, can := lint.May(p, locks), lint.Must(p, locks), lint.Reach(p)
		pc, has := 0, uint16(0)
		var regs [api.Regs]int32
		for range 30 {
			if has&^may[pc] != 0 || must[pc]&^has != 0 || !can[pc] {
				t.Fatalf("%v: at %d with %b; may %b, must %b, reach %v", p, pc, has, may[pc], must[pc], can[pc])
			}
			to, r, asks := exec.Step(p, pc, regs)
			if asks.Op == api.InsExit {
				break
			}
			if !slices.Contains(lint.Next(p, pc), to) {
				t.Fatalf("%v: from %d to %d", p, pc, to)
			}
			has, regs = behind(p.Code[pc], has, locks), r
			if asks.Op != 0 && asks.Op != api.InsOut { // what the machine tells is of its own
				regs[asks.Reg] = int32(rng.Intn(3) - 1)
			}
			pc = to
		}
	}
}

// Rule 4: answers are new memory.
func TestNew(t *testing.T) {
	p := parse(t, "\tlock r0 2\n\tjnz r0 0\n\texit r0\n\texit r0\n")
	lint.Next(p, 1)[0] = 9
	lint.Reach(p)[0] = false
	lint.May(p, 3)[1] = 9
	lint.Must(p, 3)[1] = 9
	lint.Leaks(p, 3)[0] = 9
	lint.Idle(p)[0] = 9
	all(t, p, 3)
}

// Way 4: calls end without a panic, whatever they are given.
func TestWild(t *testing.T) {
	rng := rand.New(rand.NewSource(28))
	for range 3000 {
		l := make([]api.Ins, rng.Intn(200))
		for i := range l {
			l[i] = api.Ins{Op: rng.Intn(18) - 1, A: rng.Intn(9) - 4, B: rng.Intn(9) - 4, N: int32(rng.Intn(300) - 50)}
			if rng.Intn(10) == 0 {
				l[i].N = int32(rng.Uint32())
			}
		}
		p := code(l...)
		for _, n := range append(wild, 0, 1, 63, 199) {
			lint.Next(p, n)
			lint.Straight(p, n)
			lint.Leaks(p, n)
			lint.Must(p, n)
		}
		lint.Idle(p)
	}
	if len(lint.Reach(api.Prog{})) != 0 || len(lint.May(api.Prog{}, 3)) != 0 || len(lint.Must(api.Prog{}, 3)) != 0 || len(lint.Leaks(api.Prog{}, 3)) != 0 || len(lint.Idle(api.Prog{})) != 0 || lint.Straight(api.Prog{}, 0) != 0 {
		t.Error("a program of nothing")
	}
}
