package fair_test

import (
	"math"
	"math/big"
	"math/rand"
	"slices"
	"testing"

	"pinfold/api"
	"pinfold/fair"
)

func TestExamples(t *testing.T) {
	if d := fair.Draws(0, 1); !slices.Equal(d, []uint64{0xE220A8397B1DCDAF}) {
		t.Error(d)
	}
	l := fair.Round([]int{4, 7}, 3)
	if !slices.Equal(l, []api.Entry{{Kind: api.EnStep, A: 4}, {Kind: api.EnStep, A: 7}, {Kind: api.EnStep, A: 4}}) {
		t.Error(l)
	}
	if w, g := fair.Window(l, []int{4, 7}), fair.Gap(l, 7); w != 2 || g != 1 {
		t.Error(w, g)
	}
}

func TestDraws(t *testing.T) { // P33.1: numbers that are known of others' programs
	for seed, want := range map[uint64][]uint64{
		0:       {0xE220A8397B1DCDAF, 0x6E789E6AA1B965F4, 0x06C45D188009454F, 0xF88BB8A8724C81EC, 0x1B39896A51A8749B},
		1234567: {6457827717110365317, 3203168211198807973, 9817491932198370423, 4593380528125082431, 16408922859458223821},
	} {
		if d := fair.Draws(seed, 5); !slices.Equal(d, want) {
			t.Errorf("%d: %x", seed, d)
		}
	}
}

// whole is of whole numbers, as great as they come.
func whole(n uint64) *big.Int { return new(big.Int).SetUint64(n) }

// draw is a second reading: the number of the state z, by whole numbers that are cut modulo 2^64.
func draw(z *big.Int) uint64 {
	xor := func(n int64) *big.Int {
		by := new(big.Int).Exp(big.NewInt(2), big.NewInt(n), nil)
		return new(big.Int).Xor(z, by.Div(z, by))
	}
	cut := func(x *big.Int) *big.Int { return x.Mod(x, new(big.Int).Lsh(big.NewInt(1), 64)) }
	z = cut(new(big.Int).Set(z))
	z = cut(new(big.Int).Mul(xor(30), whole(0xBF58476D1CE4E5B9)))
	z = cut(new(big.Int).Mul(xor(27), whole(0x94D049BB133111EB)))
	return xor(31).Uint64()
}

func TestRandomDraws(t *testing.T) { // P33.1
	r := rand.New(rand.NewSource(1))
	for i := range 300 {
		seed := r.Uint64()
		if i < 3 {
			seed = []uint64{0, math.MaxUint64, 1 << 63}[i]
		}
		l := fair.Draws(seed, 20)
		if len(l) != 20 {
			t.Fatal(l)
		}
		z := whole(seed)
		for j, got := range l {
			z.Add(z, whole(0x9E3779B97F4A7C15))
			if want := draw(z); got != want {
				t.Fatalf("Draws(%x): %d: %x, not %x", seed, j, got, want)
			}
		}
	}
}

func TestHowMany(t *testing.T) { // n counts as from 0 to 2^12
	for n, want := range map[int]int{math.MinInt: 0, -1: 0, 0: 0, 1: 1, 7: 7, 4095: 4095, 4096: 4096, 4097: 4096, math.MaxInt: 4096} {
		if got := len(fair.Draws(5, n)); got != want {
			t.Error("Draws", n, got)
		}
		if got := len(fair.Round([]int{3}, n)); got != want {
			t.Error("Round", n, got)
		}
		if got := len(fair.Script(5, []int{3}, 2, n)); got != want {
			t.Error("Script", n, got)
		}
	}
	if !slices.Equal(fair.Draws(9, 4096)[:100], fair.Draws(9, 100)) {
		t.Error("more numbers begin otherwise")
	}
}

func TestRound(t *testing.T) { // P33.2
	if l := fair.Round(nil, 5); len(l) != 0 {
		t.Error(l)
	}
	cpus := []int{3, -1, 3, 5000}
	for i, e := range fair.Round(cpus, 11) {
		if e != (api.Entry{Kind: api.EnStep, A: cpus[i%4]}) {
			t.Error(i, e)
		}
	}
	if l := fair.Round(cpus, 3); len(l) != 3 || !slices.Equal(cpus, []int{3, -1, 3, 5000}) {
		t.Error(l, cpus)
	}
}

// kinds is how many entries are of each kind.
func kinds(l []api.Entry) [api.EnBalance + 1]int {
	var n [api.EnBalance + 1]int
	for _, e := range l {
		n[e.Kind]++
	}
	return n
}

func TestScript(t *testing.T) { // P33.2
	tick := api.Entry{Kind: api.EnTick}
	for _, cpus := range [][]int{nil, {6}, {4, 7, 4, -2, 900}} {
		for _, progs := range []int{math.MinInt, -3, 0, 1, 2, 16, 1000003, math.MaxInt} {
			l := fair.Script(99, cpus, progs, 2000)
			for i, d := range fair.Draws(99, 2000) {
				want := tick
				switch {
				case d&7 == 1 && progs >= 1:
					want = api.Entry{Kind: api.EnNew, A: int((d >> 3) % uint64(progs)), B: -1, C: -1}
				case d&7 == 1:
					want = api.Entry{Kind: api.EnNew, B: -1, C: -1}
				case d&7 > 1 && len(cpus) > 0:
					want = api.Entry{Kind: api.EnStep, A: cpus[(d>>3)%uint64(len(cpus))], Draw: uint(d / 4294967296)}
				}
				if l[i] != want {
					t.Fatalf("%v, %d: %v, not %v", cpus, progs, l[i], want)
				}
			}
			if n := kinds(l); n[api.EnTick]+n[api.EnNew]+n[api.EnStep] != 2000 || n[api.EnNew] < 200 || n[api.EnNew] > 300 || n[api.EnTick] < 200 || (n[api.EnStep] == 0) != (len(cpus) == 0) {
				t.Error(cpus, progs, n)
			}
		}
	}
}

func TestScriptsFirst(t *testing.T) { // P33.2: known numbers, by hand
	l := fair.Script(0, []int{10, 11, 12}, 7, 5)
	want := []api.Entry{
		{Kind: api.EnStep, A: 10 + 0xE220A8397B1DCDAF/8%3, Draw: 0xE220A839},
		{Kind: api.EnStep, A: 10 + 0x6E789E6AA1B965F4/8%3, Draw: 0x6E789E6A},
		{Kind: api.EnStep, A: 10 + 0x06C45D188009454F/8%3, Draw: 0x06C45D18},
		{Kind: api.EnStep, A: 10 + 0xF88BB8A8724C81EC/8%3, Draw: 0xF88BB8A8},
		{Kind: api.EnStep, A: 10 + 0x1B39896A51A8749B/8%3, Draw: 0x1B39896A},
	}
	if !slices.Equal(l, want) {
		t.Error(l)
	}
}

// steps are entries of which each is a step of the worker of that digit; of other signs there are other entries.
func steps(text string) []api.Entry {
	var l []api.Entry
	for i, c := range text {
		e := api.Entry{Kind: api.EnStep, A: int(c - '0'), Draw: uint(i)}
		switch c {
		case '.':
			e = api.Entry{Kind: api.EnTick}
		case 'n':
			e = api.Entry{Kind: api.EnOnline, A: 1}
		}
		l = append(l, e)
	}
	return l
}

func TestGap(t *testing.T) { // P33.3
	for text, want := range map[string]int{"": 0, "1": 0, "111": 0, "2": 1, "222": 3, "1222": 3, "2221": 3, "122122212": 3, "2122": 2, ".nn1": 3, "1nn": 2, "..1...1....1": 4, "....1...1..": 4, "1....11.....": 5} {
		if got := fair.Gap(steps(text), 1); got != want {
			t.Errorf("Gap of %q: %d", text, got)
		}
	}
	if n := fair.Gap([]api.Entry{{Kind: api.EnStep, A: -1}, {Kind: api.EnTick}, {}}, -1); n != 2 {
		t.Error(n)
	}
}

func TestWindow(t *testing.T) { // P33.3
	for _, x := range []struct {
		text string
		cpus []int
		want int
	}{
		{"", nil, 1},
		{"", []int{1}, 1},
		{"1", []int{1}, 1},
		{"1", nil, 1},
		{"...", nil, 1},
		{"2", []int{1}, 2},
		{"2222", []int{1}, 5},
		{"2222", []int{2, 1}, 5},
		{"2222", []int{1, 2}, 5},
		{"2222", []int{2, 2}, 1},
		{"1212", []int{1, 2}, 2},
		{"1122", []int{1, 2}, 3},
		{"1222", []int{1, 2}, 4},
		{"12.", []int{1, 2}, 3},
		{".12", []int{1, 2}, 3},
		{"n.12", []int{1, 2}, 4},
		{"123123", []int{3, 1, 2}, 3},
		{"1231", []int{1, 3, 2}, 3},
		{"1n1n", []int{1}, 2},
	} {
		if got := fair.Window(steps(x.text), x.cpus); got != x.want {
			t.Errorf("Window of %q, %v: %d, not %d", x.text, x.cpus, got, x.want)
		}
	}
}

func TestSteps(t *testing.T) { // P33.3
	l := steps("12n.3113")
	if n := fair.Steps(l, []int{1, 2, 3, 4, 1, 0}); !slices.Equal(n, []int{3, 1, 2, 0, 3, 0}) {
		t.Error(n)
	}
	if n := fair.Steps(l, nil); len(n) != 0 {
		t.Error(n)
	}
	if n := fair.Steps(nil, []int{5}); !slices.Equal(n, []int{0}) {
		t.Error(n)
	}
	for _, x := range []struct {
		text string
		cpus []int
		want bool
	}{
		{"", nil, true},
		{"1", nil, true},
		{"", []int{1, 2}, true},
		{"1", []int{1, 2}, true},
		{"11", []int{1, 2}, false},
		{"11", []int{2, 1}, false},
		{"11", []int{1}, true},
		{"11", []int{1, 1}, true},
		{"1122n..1", []int{1, 2}, true},
		{"1122n..1", []int{1, 2, 3}, false},
		{"11223", []int{1, 2, 3}, true},
		{"112233322", []int{1, 2, 3}, false},
		{"33221", []int{1, 2, 3, 4}, false},
		{"nn2", []int{1, 2}, true},
	} {
		if got := fair.Even(steps(x.text), x.cpus); got != x.want {
			t.Errorf("Even of %q, %v: %t", x.text, x.cpus, got)
		}
	}
}

// holds tells whether each w entries, one behind the other, have a step of each worker.
func holds(l []api.Entry, cpus []int, w int) bool {
	for i := range len(l) - w + 1 {
		for _, cpu := range cpus {
			if !slices.ContainsFunc(l[i:i+w], func(e api.Entry) bool { return e.Kind == api.EnStep && e.A == cpu }) {
				return false
			}
		}
	}
	return true
}

func TestRandomRows(t *testing.T) { // P33.3, P33.5: against a second reading
	for seed := range int64(3000) {
		r := rand.New(rand.NewSource(seed))
		text, many := "", 1+r.Intn(30)
		for range r.Intn(many) {
			text += string("1231231n."[r.Intn(9)])
		}
		l, cpus := steps(text), []int{1, 2, 3, 1}[:r.Intn(5)]
		given := slices.Clone(l)
		want := 1
		for want <= len(l) && !holds(l, cpus, want) {
			want++
		}
		if got := fair.Window(l, cpus); got != want {
			t.Fatalf("Window of %q, %v: %d, not %d", text, cpus, got, want)
		}
		greatest := 0
		for _, cpu := range cpus {
			gap := 0
			for i := range l {
				for j := i; j <= len(l); j++ {
					if !slices.ContainsFunc(l[i:j], func(e api.Entry) bool { return e.Kind == api.EnStep && e.A == cpu }) {
						gap = max(gap, j-i)
					}
				}
			}
			if got := fair.Gap(l, cpu); got != gap {
				t.Fatalf("Gap of %q, %d: %d, not %d", text, cpu, got, gap)
			}
			greatest = max(greatest, gap)
		}
		if greatest < len(l) && fair.Window(l, cpus) != greatest+1 {
			t.Fatal(text, cpus, greatest)
		}
		if !slices.Equal(l, given) {
			t.Fatal("the row is changed")
		}
	}
}

func TestRoundsAreFair(t *testing.T) { // P33.4
	for many := 1; many < 20; many++ {
		cpus := rand.New(rand.NewSource(int64(many))).Perm(900)[:many]
		for n := range 60 {
			l := fair.Round(cpus, n)
			if !fair.Even(l, cpus) {
				t.Error(many, n, "isn't even")
			}
			if w := fair.Window(l, cpus); n >= many && w != many {
				t.Error(many, n, w)
			}
		}
	}
}
