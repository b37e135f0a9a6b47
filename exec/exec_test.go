package exec_test

import (
	"math"
	"math/big"
	"math/rand"
	"slices"
	"testing"

	"pinfold/api"
	"pinfold/exec"
	"pinfold/prog"
)

const (
	most  = math.MaxInt32
	least = math.MinInt32
)

type regs = [api.Regs]int32

// words are what registers hold in tests: the edges, and what goes round with them.
var words = []int32{least, least + 1, -7, -1, 0, 1, 2, 7, most - 1, most}

// refused is what is asked where nothing can be done.
var refused = api.Effect{Op: api.InsExit, N: -1}

// code is a program that has these instructions.
func code(l ...api.Ins) api.Prog { return api.Prog{Prio: 2, Code: l} }

// round is n as a word of 32 bits.
func round(n *big.Int) int32 {
	m := new(big.Int).Mod(new(big.Int).Add(n, big.NewInt(1<<31)), big.NewInt(1<<32))
	return int32(m.Int64() - 1<<31)
}

// asked is how each instruction's effect is put together: what stands in Reg, and what in N.
var asked = map[int][2]string{
	api.InsYield: {"0", "0"}, api.InsSpawn: {"A", "N"}, api.InsLock: {"A", "N"}, api.InsUnlock: {"A", "N"}, api.InsMask: {"A", "N"},
	api.InsJoin: {"B", "word"}, api.InsSleep: {"0", "word"}, api.InsOut: {"0", "word"}, api.InsExit: {"0", "word"},
}

// model is what the document says of a step of a program that may be.
func model(p api.Prog, pc int, r regs) (int, regs, api.Effect) {
	x := p.Code[pc]
	if how, asks := asked[x.Op]; asks {
		said := map[string]int{"0": 0, "A": x.A, "B": x.B, "N": int(x.N), "word": int(r[x.A])}
		if x.Op != api.InsExit {
			pc++
		}
		return pc, r, api.Effect{Op: x.Op, Reg: said[how[0]], N: int32(said[how[1]])}
	}
	a, b := big.NewInt(int64(r[x.A])), big.NewInt(int64(r[x.B]))
	jumps := x.Op == api.InsJump || x.Op == api.InsJnz && a.Sign() != 0
	if jumps {
		return int(x.N), r, api.Effect{}
	}
	if x.Op != api.InsJnz {
		r[x.A] = round(map[int]*big.Int{
			api.InsSet: big.NewInt(int64(x.N)), api.InsAdd: new(big.Int).Add(a, b), api.InsSub: new(big.Int).Sub(a, b),
		}[x.Op])
	}
	return pc + 1, r, api.Effect{}
}

// randomIns is an instruction of a program of so many places.
func randomIns(rng *rand.Rand, places int) api.Ins {
	x := api.Ins{Op: 1 + rng.Intn(14)}
	if x.Op != api.InsJump && x.Op != api.InsYield {
		x.A = rng.Intn(api.Regs)
	}
	switch x.Op {
	case api.InsAdd, api.InsSub, api.InsJoin:
		x.B = rng.Intn(api.Regs)
	case api.InsSet:
		x.N = words[rng.Intn(len(words))]
	case api.InsJump, api.InsJnz:
		x.N = int32(rng.Intn(places))
	case api.InsSpawn, api.InsLock, api.InsUnlock, api.InsMask:
		x.N = int32(rng.Intn(16))
	}
	return x
}

// randomProg is a program that may be.
func randomProg(rng *rand.Rand) api.Prog {
	l := make([]api.Ins, 1+rng.Intn(8))
	if rng.Intn(10) == 0 {
		l = make([]api.Ins, api.MaxCode)
	}
	for i := range l {
		l[i] = randomIns(rng, len(l))
	}
	if op := l[len(l)-1].Op; op != api.InsJump && op != api.InsExit {
		l[len(l)-1] = api.Ins{Op: api.InsExit, A: rng.Intn(api.Regs)}
	}
	return api.Prog{Prio: rng.Intn(4), Code: l}
}

// calm is a program that asks nothing but yields, outs and what it ends with.
func calm(rng *rand.Rand) api.Prog {
	p := randomProg(rng)
	for i, x := range p.Code {
		if x.Op >= api.InsSpawn && x.Op <= api.InsMask && rng.Intn(10) > 0 {
			p.Code[i] = api.Ins{Op: api.InsOut, A: x.A}
		}
	}
	return p
}

func randomRegs(rng *rand.Rand) (r regs) {
	for i := range r {
		r[i] = words[rng.Intn(len(words))]
	}
	return r
}

// same holds a step's answer against what it should be.
func same(t *testing.T, p api.Prog, pc int, r regs, wantPc int, want regs, wantAsks api.Effect) {
	t.Helper()
	kept := api.Prog{Prio: p.Prio, Code: slices.Clone(p.Code)}
	gotPc, got, asks := exec.Step(p, pc, r)
	if gotPc != wantPc || got != want || asks != wantAsks {
		t.Fatalf("Step(%v, %d, %v) = %d, %v, %v; want %d, %v, %v", p, pc, r, gotPc, got, asks, wantPc, want, wantAsks)
	}
	if !prog.Same(p, kept) {
		t.Fatalf("Step changed its program: %v, before %v", p, kept)
	}
}

// P10.1: each instruction by itself, as the chapter says it.
func TestStepByHand(t *testing.T) {
	r := regs{5, -6, 0, 8}
	exit := api.Ins{Op: api.InsExit}
	for _, c := range []struct {
		x    api.Ins
		pc   int
		regs regs
		asks api.Effect
	}{
		{api.Ins{Op: api.InsSet, A: 2, N: -9}, 1, regs{5, -6, -9, 8}, api.Effect{}},
		{api.Ins{Op: api.InsAdd, A: 0, B: 1}, 1, regs{-1, -6, 0, 8}, api.Effect{}},
		{api.Ins{Op: api.InsAdd, A: 3, B: 3}, 1, regs{5, -6, 0, 16}, api.Effect{}},
		{api.Ins{Op: api.InsSub, A: 0, B: 1}, 1, regs{11, -6, 0, 8}, api.Effect{}},
		{api.Ins{Op: api.InsSub, A: 1, B: 1}, 1, regs{5, 0, 0, 8}, api.Effect{}},
		{api.Ins{Op: api.InsJump, N: 2}, 2, r, api.Effect{}},
		{api.Ins{Op: api.InsJump, N: 0}, 0, r, api.Effect{}},
		{api.Ins{Op: api.InsJnz, A: 1, N: 2}, 2, r, api.Effect{}},
		{api.Ins{Op: api.InsJnz, A: 2, N: 2}, 1, r, api.Effect{}},
		{api.Ins{Op: api.InsYield}, 1, r, api.Effect{Op: 6}},
		{api.Ins{Op: api.InsSpawn, A: 3, N: 15}, 1, r, api.Effect{Op: 7, Reg: 3, N: 15}},
		{api.Ins{Op: api.InsJoin, A: 1, B: 3}, 1, r, api.Effect{Op: 8, Reg: 3, N: -6}},
		{api.Ins{Op: api.InsLock, A: 1, N: 4}, 1, r, api.Effect{Op: 9, Reg: 1, N: 4}},
		{api.Ins{Op: api.InsUnlock, A: 2, N: 0}, 1, r, api.Effect{Op: 10, Reg: 2}},
		{api.Ins{Op: api.InsSleep, A: 3}, 1, r, api.Effect{Op: 11, N: 8}},
		{api.Ins{Op: api.InsMask, A: 1, N: 1}, 1, r, api.Effect{Op: 12, Reg: 1, N: 1}},
		{api.Ins{Op: api.InsOut, A: 1}, 1, r, api.Effect{Op: 13, N: -6}},
		{api.Ins{Op: api.InsExit, A: 3}, 0, r, api.Effect{Op: 14, N: 8}},
	} {
		same(t, code(c.x, exit, exit), 0, r, c.pc, c.regs, c.asks)
	}
}

// P10.1: the chapter's example.
func TestExample(t *testing.T) {
	p := code(api.Ins{Op: api.InsSet, A: 1, N: 3}, api.Ins{Op: api.InsAdd, A: 0, B: 1}, api.Ins{Op: api.InsExit})
	same(t, p, 0, regs{}, 1, regs{0, 3}, api.Effect{})
	same(t, p, 1, regs{0, 3}, 2, regs{3, 3}, api.Effect{})
	same(t, p, 2, regs{3, 3}, 2, regs{3, 3}, api.Effect{Op: api.InsExit, N: 3})
}

// P10.1: all instructions with all registers and words at the edges, sums that go round among them.
func TestStepAll(t *testing.T) {
	for op := 1; op <= 14; op++ {
		for a := range api.Regs {
			for b := range api.Regs {
				for _, n := range []int32{0, 1, 2, 15, -1, most, least} {
					p := code(api.Ins{Op: op, A: a, B: b, N: n}, api.Ins{Op: api.InsYield}, api.Ins{Op: api.InsExit})
					if e, _ := prog.Check(p); e == api.OK {
						stepWords(t, p)
					}
				}
			}
		}
	}
}

// stepWords holds the first step of p against the model, with all pairs of words in its registers.
func stepWords(t *testing.T, p api.Prog) {
	x := p.Code[0]
	for _, v := range words {
		for _, w := range words {
			r := regs{11, 12, 13, 14}
			r[x.B] = w
			r[x.A] = v
			pc, want, asks := model(p, 0, r)
			same(t, p, 0, r, pc, want, asks)
		}
	}
}

// P10.1: what goes beyond 32 bits goes round.
func TestRound(t *testing.T) {
	for _, c := range []struct {
		op         int
		a, b, want int32
	}{
		{api.InsAdd, most, 1, least}, {api.InsAdd, least, -1, most}, {api.InsAdd, least, least, 0}, {api.InsAdd, most, most, -2},
		{api.InsSub, least, 1, most}, {api.InsSub, most, -1, least}, {api.InsSub, 0, least, least}, {api.InsSub, -1, least, most},
	} {
		p := code(api.Ins{Op: c.op, A: 2, B: 3}, api.Ins{Op: api.InsExit})
		same(t, p, 0, regs{1, 2, c.a, c.b}, 1, regs{1, 2, c.want, c.b}, api.Effect{})
	}
}

// P10.1, P10.3: programs at random, at all their places; the same instruction elsewhere does the same.
func TestStepRandom(t *testing.T) {
	rng := rand.New(rand.NewSource(10))
	for range 20000 {
		p, r := randomProg(rng), randomRegs(rng)
		for pc := range p.Code {
			next, want, asks := model(p, pc, r)
			same(t, p, pc, r, next, want, asks)
			sameElsewhere(t, rng, p, pc, r)
		}
	}
}

// sameElsewhere does p's instruction pc at another place of another program, if it may stand there.
func sameElsewhere(t *testing.T, rng *rand.Rand, p api.Prog, pc int, r regs) {
	q := randomProg(rng)
	at := rng.Intn(len(q.Code))
	q.Code[at] = p.Code[pc]
	if e, _ := prog.Check(q); e != api.OK {
		return
	}
	next, want, wantAsks := exec.Step(p, pc, r)
	on, got, asks := exec.Step(q, at, r)
	goesOn := next == pc+1 && on == at+1 || next == pc && on == at || next == on
	if !goesOn || got != want || asks != wantAsks {
		t.Fatalf("%v at %d of %v: %d, %v, %v; at %d of %v: %d, %v, %v", p.Code[pc], pc, p, next, want, wantAsks, at, q, on, got, asks)
	}
}

// wrongs are programs that may not be, each for another cause.
func wrongs() []api.Prog {
	exit := api.Ins{Op: api.InsExit}
	return []api.Prog{
		{}, {Prio: 1}, {Prio: -1, Code: []api.Ins{exit}}, {Prio: 4, Code: []api.Ins{exit}},
		{Code: slices.Repeat([]api.Ins{exit}, api.MaxCode+1)},
		code(api.Ins{}, exit), code(api.Ins{Op: 15}, exit), code(api.Ins{Op: -1}, exit), code(exit, api.Ins{Op: 99}, exit),
		code(api.Ins{Op: api.InsSet, A: 4}, exit), code(api.Ins{Op: api.InsOut, A: -1}, exit), code(api.Ins{Op: api.InsAdd, B: 4}, exit),
		code(api.Ins{Op: api.InsSet, B: 1}, exit), code(api.Ins{Op: api.InsYield, A: 1}, exit),
		code(api.Ins{Op: api.InsJump, N: 2}, exit), code(api.Ins{Op: api.InsJnz, N: -1}, exit),
		code(api.Ins{Op: api.InsLock, N: 16}, exit), code(api.Ins{Op: api.InsOut, N: 1}, exit),
		code(api.Ins{Op: api.InsOut}), code(exit, api.Ins{Op: api.InsJnz}),
	}
}

// P10.1: of a program that may not be, at any place, and of a pc that is no place: pc, regs, an exit with -1.
func TestStepRefused(t *testing.T) {
	r := regs{least, 2, most, -4}
	numbers := []int{math.MinInt, least, -1, 0, 1, 2, 3, 63, 64, 65, 1 << 16, most, 1 << 32, math.MaxInt}
	for _, p := range wrongs() {
		for _, pc := range numbers {
			same(t, p, pc, r, pc, r, refused)
		}
	}
	p := code(api.Ins{Op: api.InsYield}, api.Ins{Op: api.InsExit})
	for _, pc := range numbers {
		if pc != 0 && pc != 1 {
			same(t, p, pc, r, pc, r, refused)
		}
	}
}

// runs is what the document says of a run, by steps; of fuel no more than 2^16 is asked.
func runs(p api.Prog, r regs, fuel int) (int, regs, []int32, api.Effect) {
	pc, told := 0, []int32{}
	for n := 0; n < fuel && n < 65536; n++ {
		var asks api.Effect
		pc, r, asks = exec.Step(p, pc, r)
		if asks.Op == api.InsOut {
			told = append(told, asks.N)
		}
		if asks != (api.Effect{}) && asks.Op != api.InsOut && asks.Op != api.InsYield {
			return pc, r, told, asks
		}
	}
	return pc, r, told, api.Effect{}
}

// sameRun holds a run's answer against what it should be.
func sameRun(t *testing.T, p api.Prog, r regs, fuel int, wantPc int, want regs, wantTold []int32, wantAsks api.Effect) {
	t.Helper()
	kept := api.Prog{Prio: p.Prio, Code: slices.Clone(p.Code)}
	pc, got, told, asks := exec.Run(p, r, fuel)
	if pc != wantPc || got != want || !slices.Equal(told, wantTold) || asks != wantAsks {
		t.Fatalf("Run(%v, %v, %d) = %d, %v, %v, %v; want %d, %v, %v, %v", p, r, fuel, pc, got, told, asks, wantPc, want, wantTold, wantAsks)
	}
	if !prog.Same(p, kept) {
		t.Fatalf("Run changed its program: %v, before %v", p, kept)
	}
}

// P10.2: a run's ends: for want of fuel, at an out, at a yield, at an exit, with the last of the fuel.
func TestRunByHand(t *testing.T) {
	set, out, yield, exit := api.Ins{Op: api.InsSet, A: 1, N: 3}, api.Ins{Op: api.InsOut, A: 1}, api.Ins{Op: api.InsYield}, api.Ins{Op: api.InsExit, A: 1}
	p := code(set, out, yield, out, exit)
	ends := api.Effect{Op: api.InsExit, N: 3}
	for fuel, c := range []struct {
		pc   int
		regs regs
		told []int32
		asks api.Effect
	}{
		{0, regs{7, 8}, nil, api.Effect{}},
		{1, regs{7, 3}, nil, api.Effect{}},
		{2, regs{7, 3}, []int32{3}, api.Effect{}},
		{3, regs{7, 3}, []int32{3}, api.Effect{}},
		{4, regs{7, 3}, []int32{3, 3}, api.Effect{}},
		{4, regs{7, 3}, []int32{3, 3}, ends},
		{4, regs{7, 3}, []int32{3, 3}, ends},
	} {
		sameRun(t, p, regs{7, 8}, fuel, c.pc, c.regs, c.told, c.asks)
	}
	for _, fuel := range []int{-1, math.MinInt, least} {
		sameRun(t, p, regs{7, 8}, fuel, 0, regs{7, 8}, nil, api.Effect{})
	}
	for _, op := range []int{api.InsSpawn, api.InsJoin, api.InsLock, api.InsUnlock, api.InsSleep, api.InsMask} {
		q := code(out, yield, api.Ins{Op: op, A: 1}, out, exit)
		_, _, asks := exec.Step(q, 2, regs{7, 8})
		sameRun(t, q, regs{7, 8}, 9, 3, regs{7, 8}, []int32{8}, asks)
		sameRun(t, q, regs{7, 8}, 2, 2, regs{7, 8}, []int32{8}, api.Effect{})
	}
}

// P10.2: fuel above 2^16 is 2^16.
func TestRunMost(t *testing.T) {
	p := code(api.Ins{Op: api.InsSet, A: 1, N: 1}, api.Ins{Op: api.InsAdd, A: 0, B: 1}, api.Ins{Op: api.InsOut, A: 0}, api.Ins{Op: api.InsJump, N: 1})
	for _, fuel := range []int{1<<16 - 2, 1<<16 - 1, 1 << 16, 1<<16 + 1, 1 << 20, most, 1<<32 + 3, math.MaxInt} {
		done := min(fuel, 1<<16)
		rounds := (done + 1) / 3 // an add and all behind it up to the next one; the first has the set ahead of it
		told := make([]int32, done/3)
		for i := range told {
			told[i] = int32(i + 1)
		}
		sameRun(t, p, regs{}, fuel, 1+(done-1)%3, regs{int32(rounds), 1}, told, api.Effect{})
	}
}

// P10.2: of a program that may not be, a run is its first step.
func TestRunRefused(t *testing.T) {
	for _, p := range wrongs() {
		for _, fuel := range []int{1, 2, 1 << 16, math.MaxInt} {
			sameRun(t, p, regs{1, 2, 3, 4}, fuel, 0, regs{1, 2, 3, 4}, nil, refused)
		}
		sameRun(t, p, regs{1, 2, 3, 4}, 0, 0, regs{1, 2, 3, 4}, nil, api.Effect{})
		sameRun(t, p, regs{1, 2, 3, 4}, -5, 0, regs{1, 2, 3, 4}, nil, api.Effect{})
	}
}

// P10.2: programs at random are run as they are stepped.
func TestRunRandom(t *testing.T) {
	rng := rand.New(rand.NewSource(11))
	for range 20000 {
		p, r := calm(rng), randomRegs(rng)
		fuel := rng.Intn(40) - 2
		pc, want, told, asks := runs(p, r, fuel)
		sameRun(t, p, r, fuel, pc, want, told, asks)
	}
}

// from is p, begun at pc: its first instruction goes there, all others are one place further on.
func from(p api.Prog, pc int) api.Prog {
	q := api.Prog{Prio: p.Prio, Code: []api.Ins{{Op: api.InsJump, N: int32(pc + 1)}}}
	for _, x := range p.Code {
		if x.Op == api.InsJump || x.Op == api.InsJnz {
			x.N++
		}
		q.Code = append(q.Code, x)
	}
	return q
}

// P10.4: a run cut in two is the run.
func TestRunCut(t *testing.T) {
	rng := rand.New(rand.NewSource(12))
	for range 20000 {
		p, r := calm(rng), randomRegs(rng)
		if len(p.Code) == api.MaxCode {
			continue
		}
		first, second := rng.Intn(12), rng.Intn(12)
		wantPc, want, wantTold, wantAsks := exec.Run(p, r, first+second)
		pc, got, told, asks := exec.Run(p, r, first)
		if asks == (api.Effect{}) {
			var more []int32
			pc, got, more, asks = exec.Run(from(p, pc), got, 1+second)
			pc, told = pc-1, append(told, more...)
		}
		if pc != wantPc || got != want || !slices.Equal(told, wantTold) || asks != wantAsks {
			t.Fatalf("%v with %v, %d and %d: %d, %v, %v, %v; in one: %d, %v, %v, %v", p, r, first, second, pc, got, told, asks, wantPc, want, wantTold, wantAsks)
		}
	}
}

// Rule 4: what a run told is new memory.
func TestRunNew(t *testing.T) {
	p := code(api.Ins{Op: api.InsOut}, api.Ins{Op: api.InsExit})
	_, _, told, _ := exec.Run(p, regs{5}, 9)
	told[0] = 6
	sameRun(t, p, regs{5}, 9, 1, regs{5}, []int32{5}, api.Effect{Op: api.InsExit, N: 5})
}
