package load_test

import (
	"math"
	"math/rand"
	"slices"
	"strconv"
	"strings"
	"testing"

	"pinfold/api"
	"pinfold/cpuset"
	"pinfold/load"
	"pinfold/topo"
)

const (
	mostTasks = 16384
	mostLoad  = 1048576
)

// wide has leaves of many depths: m 0, s 1 (a 2, t 3 (b 4, c 5), d 6), e 7, u 8 (v 9 (f 10), g 11), h 12.
const wide = "domain m { domain s { domain a cpus 0; domain t { domain b cpus 1; domain c cpus 2; } domain d cpus 3; } domain e cpus 4; domain u { domain v { domain f cpus 5; } domain g cpus 6; } domain h cpus 7; }"

// below are numbers that are no domain's, and too small for anything else.
var below = []int{-1, -2, -64, -mostTasks, -mostLoad, -1 << 40, math.MinInt32, math.MinInt + 1, math.MinInt}

// above are numbers that are too great for anything.
var above = []int{mostLoad + 1, mostLoad + 4, 1 << 31, 1 << 40, 1 << 56, 1 << 57, 1 << 58, math.MaxInt - 1, math.MaxInt}

// must is the tree that a description describes.
func must(t *testing.T, text string) api.Topo {
	t.Helper()
	x, e, at := topo.Parse(text)
	if e != api.OK {
		t.Fatalf("%.80q: %d, %v", text, e, at)
	}
	return x
}

// tree is the tree whose domains have so many around them each.
func tree(t *testing.T, depths []int) api.Topo {
	t.Helper()
	var text strings.Builder
	open, cpu := 0, 0
	for i, d := range depths {
		text.WriteString(strings.Repeat("}", open-d))
		open = d
		text.WriteString("domain n" + strconv.Itoa(i))
		if i+1 < len(depths) && depths[i+1] > d {
			text.WriteString("{")
			open++
			continue
		}
		text.WriteString(" cpus " + strconv.Itoa(cpu) + ";")
		cpu++
	}
	text.WriteString(strings.Repeat("}", open))
	return must(t, text.String())
}

// depthsAtRandom is the depths of a tree's domains, so many more than one at most.
func depthsAtRandom(r *rand.Rand, more int) []int {
	depths := []int{0}
	for range r.Intn(more + 1) {
		depths = append(depths, 1+r.Intn(min(depths[len(depths)-1]+1, api.MaxDepth-1)))
	}
	return depths
}

// cut is n, or the bound that it is beyond.
func cut(n, most int) int {
	if n < 0 {
		return 0
	}
	if n > most {
		return most
	}
	return n
}

// nextOf is what the document says of Next, by a remainder in place of a quotient.
func nextOf(old, now int) int {
	old, now = cut(old, mostLoad), cut(now, mostTasks)
	return cut(old-(old-old%4)/4+64*now, mostLoad)
}

// sumsOf is what the document says of Sums: all that lie in a domain are those behind it, up to the next that is no deeper.
func sumsOf(x api.Topo, own []int) []int {
	l := make([]int, len(x.Domains))
	for d := range x.Domains {
		sum := 0
		for i := d; i < len(x.Domains) && (i == d || x.Domains[i].Depth > x.Domains[d].Depth); i++ {
			if i < len(own) {
				sum += cut(own[i], mostTasks)
			}
		}
		l[d] = cut(sum, mostTasks)
	}
	return l
}

// loadOf is the load of a domain; of none 0.
func loadOf(loads []int, d int) int {
	if d < 0 || d > len(loads)-1 {
		return 0
	}
	return loads[d]
}

// skewOf is what the document says of Skew: the first one with which no other one's load can't keep up, and the other way.
func skewOf(loads, kids []int) (int, int, bool) {
	hi := slices.IndexFunc(kids, func(a int) bool {
		return !slices.ContainsFunc(kids, func(b int) bool { return loadOf(loads, b) > loadOf(loads, a) })
	})
	lo := slices.IndexFunc(kids, func(a int) bool {
		return !slices.ContainsFunc(kids, func(b int) bool { return loadOf(loads, b) < loadOf(loads, a) })
	})
	if hi < 0 || loadOf(loads, kids[hi]) == loadOf(loads, kids[lo]) {
		return 0, 0, false
	}
	return kids[hi], kids[lo], true
}

// checkSums checks Sums, and that what was handed in, its spare room included, stays what it was.
func checkSums(t *testing.T, x api.Topo, own []int) { // P15.2
	t.Helper()
	domains, row := slices.Clone(x.Domains), append(slices.Clone(own), 77)
	spare := slices.Clone(row)
	want := sumsOf(x, own)
	if got := load.Sums(x, row[:len(own)]); !slices.Equal(got, want) {
		t.Fatalf("%s: sums of %v: %v, not %v", topo.Print(x), own, got, want)
	}
	if !slices.Equal(x.Domains, domains) || !slices.Equal(row, spare) {
		t.Fatal("what was handed in is another one", x, row)
	}
}

// checkSkew checks Skew, and that what was handed in stays what it was.
func checkSkew(t *testing.T, loads, kids []int) { // P15.3
	t.Helper()
	of, some := slices.Clone(loads), slices.Clone(kids)
	hi, lo, ok := load.Skew(loads, kids)
	if whi, wlo, wok := skewOf(loads, kids); hi != whi || lo != wlo || ok != wok {
		t.Fatalf("skew of %v, %v: %d, %d, %t, not %d, %d, %t", loads, kids, hi, lo, ok, whi, wlo, wok)
	}
	if !slices.Equal(loads, of) || !slices.Equal(kids, some) {
		t.Fatal("what was handed in is another one", loads, kids)
	}
}

// pair is loads, and what they should be.
type pair struct {
	x     api.Topo
	loads *load.Loads
	want  []int
}

func begin(x api.Topo) *pair {
	return &pair{x, load.New(x), make([]int, len(x.Domains))}
}

// tick lets a tick go by in both.
func (p *pair) tick(own []int) {
	p.loads.Tick(own)
	for d, now := range sumsOf(p.x, own) {
		p.want[d] = nextOf(p.want[d], now)
	}
}

// check checks that all loads are what they should be, and what follows for them.
func (p *pair) check(t *testing.T) { // P15.2, P15.4, P15.5
	t.Helper()
	if got := p.loads.All(); !slices.Equal(got, p.want) {
		t.Fatalf("%s: %v, not %v", topo.Print(p.x), got, p.want)
	}
	for d, want := range p.want {
		got := p.loads.At(d)
		if got != want {
			t.Fatalf("%s: load of %d: %d, not %d", topo.Print(p.x), d, got, want)
		}
		if got < 0 || got > mostLoad {
			t.Fatalf("%s: load of %d: %d", topo.Print(p.x), d, got)
		}
		if up := p.x.Domains[d].Up; got > p.loads.At(0) || up >= 0 && got > p.loads.At(up) {
			t.Fatalf("%s: load of %d is greater than one's in which it lies: %v", topo.Print(p.x), d, p.loads.All())
		}
	}
	for _, d := range slices.Concat(below, above, []int{len(p.want), len(p.want) + 1}) {
		if got := p.loads.At(d); got != 0 {
			t.Fatalf("%s: load of %d, which is none: %d", topo.Print(p.x), d, got)
		}
	}
}

func TestNext(t *testing.T) { // P15.1
	for _, w := range []struct{ old, now, want int }{
		{0, 4, 256}, {256, 4, 448}, {448, 0, 336}, // the document's own
		{0, 0, 0}, {1, 0, 1}, {2, 0, 2}, {3, 0, 3}, {4, 0, 3}, {5, 0, 4}, {6, 0, 5}, {7, 0, 6}, {8, 0, 6}, {9, 0, 7}, {11, 0, 9}, {12, 0, 9}, // a quarter downwards
		{0, 1, 64}, {3, 1, 67}, {4, 1, 67}, {256, 1, 256}, {259, 1, 259}, {260, 1, 259}, {1000, 10, 1390}, {1001, 10, 1391}, {1003, 10, 1393}, {1004, 10, 1393},
		{mostLoad, 0, 786432}, {mostLoad - 1, 0, 786432}, {mostLoad - 2, 0, 786431}, {mostLoad, 1, 786496}, {mostLoad, 4095, 1048512}, // about the bounds
		{mostLoad, 4096, mostLoad}, {mostLoad, 4097, mostLoad}, {mostLoad - 1, 4096, mostLoad}, {mostLoad - 4, 4096, mostLoad - 3}, {mostLoad, mostTasks, mostLoad},
		{0, mostTasks, mostLoad}, {0, mostTasks - 1, 1048512}, {85, mostTasks - 1, mostLoad}, {84, mostTasks - 1, 1048575}, {86, mostTasks - 1, mostLoad},
		{0, mostTasks + 1, mostLoad}, {-1, 1, 64}, {-5, 0, 0}, {1, -1, 1}, {100, -7, 75}, {-1, -1, 0}, {mostLoad + 1, 0, 786432}, {mostLoad + 4, 0, 786432}, {2 * mostLoad, 3, 786624},
		{math.MaxInt, 0, 786432}, {math.MaxInt, math.MaxInt, mostLoad}, {math.MinInt, math.MinInt, 0}, {math.MinInt, math.MaxInt, mostLoad}, {math.MaxInt, math.MinInt, 786432},
	} {
		if got := load.Next(w.old, w.now); got != w.want {
			t.Errorf("%d, %d: %d, not %d", w.old, w.now, got, w.want)
		}
	}
}

func TestNextOfAll(t *testing.T) { // P15.1: old and now one by one; a quarter is one more at each fourth
	quarter := 0
	for old := range mostLoad + 1 {
		if old > 0 && old%4 == 0 {
			quarter++
		}
		for _, now := range []int{0, 1, 4096, mostTasks} {
			if got, want := load.Next(old, now), min(old-quarter+64*now, mostLoad); got != want {
				t.Fatalf("%d, %d: %d, not %d", old, now, got, want)
			}
		}
	}
	for now := range mostTasks + 1 {
		for _, old := range []int{0, 1, 7, mostLoad / 2, mostLoad - 1, mostLoad} {
			if got, want := load.Next(old, now), nextOf(old, now); got != want {
				t.Fatalf("%d, %d: %d, not %d", old, now, got, want)
			}
		}
	}
}

func TestNextBeyond(t *testing.T) { // P15.1: what is beyond a bound counts as that
	for _, n := range below {
		for _, x := range []int{0, 1, 5, 400, mostTasks} {
			if got, want := load.Next(n, x), load.Next(0, x); got != want {
				t.Errorf("%d, %d: %d, not %d", n, x, got, want)
			}
			if got, want := load.Next(x, n), load.Next(x, 0); got != want {
				t.Errorf("%d, %d: %d, not %d", x, n, got, want)
			}
		}
	}
	for _, n := range append(slices.Clone(above), mostTasks+1, mostLoad) {
		for _, x := range []int{0, 1, 5, 400, mostTasks} {
			if got, want := load.Next(max(n, mostLoad), x), load.Next(mostLoad, x); got != want {
				t.Errorf("%d, %d: %d, not %d", n, x, got, want)
			}
			if got, want := load.Next(x, n), load.Next(x, mostTasks); got != want {
				t.Errorf("%d, %d: %d, not %d", x, n, got, want)
			}
		}
	}
}

func TestNextRises(t *testing.T) { // P15.4: within the bounds, and no less with more
	edges := slices.Concat(below, above)
	for _, n := range []int{0, 1, 2, 3, 4, 5, 64, 1000, 4095, 4096, mostTasks - 1, mostTasks, mostTasks + 1, mostLoad - 5, mostLoad - 4, mostLoad - 1, mostLoad} {
		edges = append(edges, n)
	}
	slices.Sort(edges)
	for i, old := range edges {
		for j, now := range edges {
			got := load.Next(old, now)
			if got < 0 || got > mostLoad {
				t.Fatal(old, now, got)
			}
			if i > 0 && load.Next(edges[i-1], now) > got || j > 0 && load.Next(old, edges[j-1]) > got {
				t.Fatalf("%d, %d: %d is less than with less", old, now, got)
			}
		}
	}
	for old := range mostLoad {
		if load.Next(old, 0) > load.Next(old+1, 0) || load.Next(old, 9) > load.Next(old+1, 9) {
			t.Fatalf("%d: more than with one more", old)
		}
	}
}

func TestNextRests(t *testing.T) { // P15.1, P15.4: near 256 for each task, with none at 0 or nearly so
	for n := range 4200 {
		for _, old := range []int{0, 256 * n, mostLoad} {
			for range 100 {
				old = load.Next(old, n)
			}
			if least := min(256*n, mostLoad); old < least || old > min(least+3, mostLoad) || load.Next(old, n) != old {
				t.Fatalf("%d tasks: comes to %d, then %d", n, old, load.Next(old, n))
			}
		}
	}
	for old := 4; old <= mostLoad; old++ {
		if load.Next(old, 0) >= old {
			t.Fatalf("%d: no less with none", old)
		}
	}
}

func TestSums(t *testing.T) { // P15.2
	x := must(t, wide)
	for _, w := range []struct{ own, want []int }{
		{nil, make([]int, 13)},
		{[]int{1, 2, 3, 4, 5, 6, 7, 8, 9, 10, 11, 12, 13}, []int{91, 27, 3, 15, 5, 6, 7, 8, 42, 21, 11, 12, 13}},
		{[]int{0, 0, 0, 0, 0, 0, 0, 0, 0, 0, 1}, []int{1, 0, 0, 0, 0, 0, 0, 0, 1, 1, 1, 0, 0}}, // from the deepest up
		{[]int{0, 0, 0, 0, 0, 0, 0, 0, 0, 0, 0, 0, 1}, []int{1, 0, 0, 0, 0, 0, 0, 0, 0, 0, 0, 0, 1}},
		{[]int{5}, []int{5, 0, 0, 0, 0, 0, 0, 0, 0, 0, 0, 0, 0}}, // what it lacks
		{[]int{0, 1}, []int{1, 1, 0, 0, 0, 0, 0, 0, 0, 0, 0, 0, 0}},
		{[]int{0, 0, 0, 0, 0, 0, 0, 0, 0, 0, 0, 0, 0, 9, 9}, make([]int, 13)}, // what is none's
		{[]int{1, -5, 2, math.MinInt, 3, -1}, []int{6, 5, 2, 3, 3, 0, 0, 0, 0, 0, 0, 0, 0}},
		{[]int{1, 1, 1, 1, mostTasks - 2}, []int{mostTasks, mostTasks, 1, mostTasks - 1, mostTasks - 2, 0, 0, 0, 0, 0, 0, 0, 0}},
		{[]int{1, 0, 0, 1, mostTasks - 2}, []int{mostTasks, mostTasks - 1, 0, mostTasks - 1, mostTasks - 2, 0, 0, 0, 0, 0, 0, 0, 0}}, // just the greatest
		{[]int{-mostTasks, 0, 0, 0, mostTasks + 1, 0, 0, math.MaxInt}, []int{mostTasks, mostTasks, 0, mostTasks, mostTasks, 0, 0, mostTasks, 0, 0, 0, 0, 0}},
		{slices.Repeat([]int{math.MaxInt}, 13), slices.Repeat([]int{mostTasks}, 13)},
		{slices.Repeat([]int{math.MinInt}, 13), make([]int, 13)},
	} {
		if got := load.Sums(x, w.own); !slices.Equal(got, w.want) {
			t.Errorf("%v: %v, not %v", w.own, got, w.want)
		}
		checkSums(t, x, w.own)
	}
	for _, n := range []int{math.MinInt, -1, 0, 1, mostTasks - 1, mostTasks, mostTasks + 1, math.MaxInt} { // a leaf alone
		if got := load.Sums(must(t, "domain a cpus 0;"), []int{n, 3}); !slices.Equal(got, []int{cut(n, mostTasks)}) {
			t.Errorf("%d: %v", n, got)
		}
	}
}

// sumsBehind checks the sums of all trees of so many domains more at most, that begin with these depths.
func sumsBehind(t *testing.T, depths []int, most int) {
	x := tree(t, depths)
	powers := make([]int, len(depths))
	for d := range depths {
		powers[d] = 1 << d
	}
	for n := range len(powers) + 1 { // a number tells which are in it
		checkSums(t, x, powers[:n])
	}
	p := begin(x)
	for range 3 {
		p.tick(powers)
		p.check(t)
	}
	if most == 0 {
		return
	}
	for d := 1; d <= min(depths[len(depths)-1]+1, api.MaxDepth-1); d++ {
		sumsBehind(t, append(slices.Clone(depths), d), most-1)
	}
}

func TestAllSmallTrees(t *testing.T) { // P15.2, P15.4, P15.5
	sumsBehind(t, []int{0}, 7)
	sumsBehind(t, []int{0, 1, 2, 3, 4, 5}, 3)
}

// ownAtRandom is numbers of tasks, some of them beyond a bound, for about so many domains.
func ownAtRandom(r *rand.Rand, domains int) []int {
	own := make([]int, max(domains+r.Intn(5)-2, 0))
	most := []int{3, 100, 5000, 40000}[r.Intn(4)]
	for i := range own {
		own[i] = r.Intn(most)
		switch r.Intn(40) {
		case 0:
			own[i] = below[r.Intn(len(below))]
		case 1:
			own[i] = above[r.Intn(len(above))]
		}
	}
	return own
}

func TestTreesAtRandom(t *testing.T) { // P15.2, P15.4, P15.5
	r := rand.New(rand.NewSource(15))
	for range 300 {
		x := tree(t, depthsAtRandom(r, 40))
		p := begin(x)
		p.check(t)
		for range 30 {
			own := ownAtRandom(r, len(x.Domains))
			checkSums(t, x, own)
			p.tick(own)
			p.check(t)
		}
	}
}

func TestLoads(t *testing.T) { // P15.2
	l := load.New(must(t, "domain m { domain a cpus 0; domain b cpus 1; }"))
	for _, w := range []struct{ own, want []int }{
		{nil, []int{0, 0, 0}},
		{[]int{0, 2, 1}, []int{192, 128, 64}},
		{[]int{0, 2, 1}, []int{336, 224, 112}},
		{[]int{1}, []int{316, 168, 84}},
		{nil, []int{237, 126, 63}},
		{[]int{-1, 0, -9, 5}, []int{178, 95, 48}},
		{[]int{math.MinInt, math.MaxInt}, []int{mostLoad, mostLoad, 36}},
		{nil, []int{786432, 786432, 27}},
		{[]int{mostTasks, mostTasks, mostTasks}, []int{mostLoad, mostLoad, mostLoad}},
	} {
		l.Tick(w.own)
		if got := l.All(); !slices.Equal(got, w.want) {
			t.Fatalf("%v: %v, not %v", w.own, got, w.want)
		}
		for d, want := range []int{0, w.want[0], w.want[1], w.want[2], 0, 0} {
			if got := l.At(d - 1); got != want {
				t.Fatalf("%v: %d: %d, not %d", w.own, d-1, got, want)
			}
		}
	}
}

func TestLoadsRise(t *testing.T) { // P15.4: with as many or more tasks a load isn't less, with none it comes to 0 or nearly so
	r := rand.New(rand.NewSource(154))
	for range 60 {
		x := tree(t, depthsAtRandom(r, 12))
		less, more := load.New(x), load.New(x)
		for range 20 {
			few := ownAtRandom(r, len(x.Domains))
			many := slices.Clone(few)
			for i := range many {
				many[i] = max(many[i], r.Intn(2)*r.Intn(20000))
			}
			less.Tick(few)
			more.Tick(many)
			for d := range x.Domains {
				if less.At(d) > more.At(d) {
					t.Fatalf("%s: %d: %d with less, %d with more", topo.Print(x), d, less.At(d), more.At(d))
				}
			}
		}
		for range 100 {
			more.Tick(nil)
		}
		if rest := more.All(); slices.Max(rest) > 3 {
			t.Fatalf("%s: comes to %v with none", topo.Print(x), rest)
		}
	}
}

func TestLoadsAreApart(t *testing.T) { // P15.2: two of one tree have nothing in common
	x := must(t, wide)
	a, b := begin(x), begin(x)
	for i := range 9 {
		a.tick([]int{i, 0, 3, 1})
		a.check(t)
		b.check(t)
		b.tick([]int{0, 1, 0, 0, i})
		a.check(t)
		b.check(t)
	}
}

func TestMostDomains(t *testing.T) { // P15.2: as many as may be
	depths := []int{0}
	for range 1023 {
		depths = append(depths, 1, 2)
	}
	x := tree(t, append(depths, 1))
	if len(x.Domains) != api.MaxDomains {
		t.Fatal(len(x.Domains))
	}
	p := begin(x)
	for _, own := range [][]int{nil, slices.Repeat([]int{1}, 2048), slices.Repeat([]int{8}, 2048), slices.Repeat([]int{9}, 2047), slices.Repeat([]int{mostTasks}, 4096), slices.Repeat([]int{math.MaxInt}, 2048)} {
		checkSums(t, x, own)
		p.tick(own)
		p.check(t)
	}
	deep := tree(t, []int{0, 1, 2, 3, 4, 5, 6, 7, 7, 1, 2, 3, 4, 5, 6, 7})
	checkSums(t, deep, []int{0, 0, 0, 0, 0, 0, 0, 1, 2, 0, 0, 0, 0, 0, 0, 4})
	checkSums(t, deep, []int{1, 2, 4, 8, 16, 32, 64, 128, 256, 512, 1024, 2048, 4096, 8192, 16384, 32768})
}

func TestNilLoads(t *testing.T) { // P15.2
	var l *load.Loads
	l.Tick(nil)
	l.Tick([]int{1, 2})
	if got := l.All(); len(got) != 0 {
		t.Error(got)
	}
	for _, d := range slices.Concat(below, above, []int{0, 1}) {
		if got := l.At(d); got != 0 {
			t.Error(d, got)
		}
	}
}

func TestSkew(t *testing.T) { // P15.3
	for _, w := range []struct {
		loads, kids []int
		hi, lo      int
		ok          bool
	}{
		{[]int{192, 128, 64}, []int{1, 2}, 1, 2, true},
		{[]int{192, 128, 64}, []int{2, 1}, 1, 2, true},
		{[]int{192, 128, 64}, []int{0, 1, 2}, 0, 2, true},
		{nil, nil, 0, 0, false}, {[]int{1, 2}, nil, 0, 0, false}, {nil, []int{1, 2}, 0, 0, false}, // there are none, or none has any
		{[]int{5}, []int{0}, 0, 0, false}, {[]int{5, 6}, []int{1}, 0, 0, false}, {[]int{5, 6}, []int{1, 1, 1}, 0, 0, false}, // one alone
		{[]int{9, 7, 7, 7}, []int{3, 1, 2}, 0, 0, false},                               // they don't differ
		{[]int{0, 3, 8, 8, 3}, []int{1, 2, 3, 4}, 2, 1, true},                          // the first ones
		{[]int{0, 3, 8, 8, 3}, []int{4, 3, 2, 1}, 3, 4, true},                          // in their order
		{[]int{0, 5, 3, 8, 8, 3}, []int{1, 2, 3, 4, 5}, 3, 2, true},                    // neither the first nor the last
		{[]int{0, 7, 1, 4}, []int{3, 2}, 3, 2, true},                                   // others' loads don't count
		{[]int{4, 5}, []int{1, 7}, 1, 7, true}, {[]int{4, 5}, []int{7, 1}, 1, 7, true}, // a number that loads hasn't
		{[]int{4, 5}, []int{2, 0}, 0, 2, true}, {[]int{4, 5}, []int{-1, 0}, 0, -1, true},
		{[]int{4, 5}, []int{math.MinInt, math.MaxInt, 1}, 1, math.MinInt, true},
		{[]int{0, 0}, []int{0, 5, -2, 1}, 0, 0, false}, {[]int{4, 5}, []int{2, -1, 99}, 0, 0, false},
		{[]int{-4, 5}, []int{0, 9}, 9, 0, true}, {[]int{-4, -5}, []int{0, 1}, 0, 1, true}, {[]int{-4, -5}, []int{-1, 2, 1}, -1, 1, true}, // below 0
		{[]int{math.MinInt, math.MaxInt}, []int{0, 1}, 1, 0, true}, {[]int{math.MaxInt, math.MaxInt - 1}, []int{1, 0}, 0, 1, true},
		{[]int{math.MinInt, math.MinInt}, []int{0, 1}, 0, 0, false},
	} {
		if hi, lo, ok := load.Skew(w.loads, w.kids); hi != w.hi || lo != w.lo || ok != w.ok {
			t.Errorf("%v: %d, %d, %t", w, hi, lo, ok)
		}
		checkSkew(t, w.loads, w.kids)
	}
}

// rows are all rows of at most so many of these numbers.
func rows(of []int, most int) [][]int {
	all := [][]int{nil}
	for i := 0; i < len(all); i++ {
		if len(all[i]) == most {
			continue
		}
		for _, n := range of {
			all = append(all, append(slices.Clone(all[i]), n))
		}
	}
	return all
}

func TestSkewOfAllShortRows(t *testing.T) { // P15.3
	for _, kids := range rows([]int{-1, 0, 1, 2, 3}, 4) {
		for _, loads := range rows([]int{-1, 0, 1, 2}, 3) {
			checkSkew(t, loads, kids)
		}
	}
}

func TestSkewAtRandom(t *testing.T) { // P15.3
	r := rand.New(rand.NewSource(153))
	for range 3000 {
		loads := make([]int, r.Intn(30))
		for i := range loads {
			loads[i] = r.Intn(1 + r.Intn(12))
		}
		kids := make([]int, r.Intn(20))
		for i := range kids {
			kids[i] = r.Intn(34) - 2
		}
		checkSkew(t, loads, kids)
	}
}

func TestNothingIsKept(t *testing.T) { // what is handed in isn't kept, what is answered is the caller's own
	x := must(t, wide)
	was := api.Topo{Domains: slices.Clone(x.Domains)}
	p := &pair{was, load.New(x), make([]int, len(was.Domains))}
	for d := range x.Domains {
		x.Domains[d] = api.Domain{Up: 12}
	}
	own := []int{1, 2, 3, 4, 5, 6, 7}
	p.tick(own)
	for i := range own {
		own[i] = 1000
	}
	p.check(t)
	all := p.loads.All()
	for i := range all {
		all[i] = -7
	}
	_ = append(all, -8)
	p.check(t)
	p.tick([]int{2})
	p.check(t)
	sums, own := load.Sums(was, own), make([]int, 13)
	for i := range sums {
		sums[i] = -9
	}
	checkSums(t, was, own)
	p.check(t)
}

func TestTreesThatMayNotBe(t *testing.T) { // nothing is promised of these, but that the calls end
	for _, x := range []api.Topo{
		{},
		{Domains: []api.Domain{{}}},          // it lies in itself
		{Domains: []api.Domain{{Up: 1}, {}}}, // two in each other
		{Domains: []api.Domain{{Up: -9}, {Up: 5}, {Up: math.MinInt}, {Up: math.MaxInt}}},
		{Domains: []api.Domain{{Up: -1}, {Up: 3}, {Up: 1}, {Up: 2}}},
		{Domains: []api.Domain{{Up: -1}, {Up: -1}, {Up: 1, Depth: math.MinInt}, {Up: 2, Depth: math.MaxInt, Leaf: true, Cpus: cpuset.Of(3)}}},
		{Domains: make([]api.Domain, api.MaxDomains+1)},
	} {
		for _, own := range [][]int{nil, {1}, slices.Repeat([]int{math.MaxInt}, 5), {math.MinInt, -1, 7, mostTasks}} {
			if got := load.Sums(x, own); len(got) != len(x.Domains) {
				t.Error(x, own, got)
			}
			l := load.New(x)
			l.Tick(own)
			l.Tick(own)
			for d := -1; d <= len(x.Domains); d++ {
				if got := l.At(d); got < 0 || got > mostLoad {
					t.Error(x, own, d, got)
				}
			}
			if got := l.All(); len(got) != len(x.Domains) {
				t.Error(x, own, got)
			}
		}
	}
}
