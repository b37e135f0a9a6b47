package home_test

import (
	"math"
	"math/rand"
	"slices"
	"strconv"
	"strings"
	"testing"

	"pinfold/api"
	"pinfold/cpuset"
	"pinfold/home"
	"pinfold/topo"
)

// small is the document's own example: m 0, a 1, b 2.
const small = "domain m { domain a cpus 0; domain b cpus 1; }"

// wide has leaves of many depths: m 0, s 1 (a 2, t 3 (b 4, c 5), d 6), e 7, u 8 (v 9 (f 10), g 11), h 12.
const wide = "domain m { domain s { domain a cpus 0; domain t { domain b cpus 1; domain c cpus 2; } domain d cpus 3; } domain e cpus 4; domain u { domain v { domain f cpus 5; } domain g cpus 6; } domain h cpus 7-8,64,1023; }"

// all is all workers.
var all = cpuset.Range(0, api.MaxCpu-1)

// nones are numbers that are no domain's of any tree.
var nones = []int{-1, -2, -64, -api.MaxDomains, math.MinInt32, math.MinInt + 1, math.MinInt, api.MaxDomains, 1 << 31, 1 << 40, math.MaxInt - 1, math.MaxInt}

// must is the tree that a description describes.
func must(t *testing.T, text string) api.Topo {
	t.Helper()
	x, e, at := topo.Parse(text)
	if e != api.OK {
		t.Fatalf("%.80q: %d, %v", text, e, at)
	}
	return x
}

// tree is the tree whose domains have so many around them each; its leaves have so many workers each.
func tree(t *testing.T, depths []int, workers int) api.Topo {
	t.Helper()
	var text strings.Builder
	open, cpu := 0, 0
	for i, d := range depths {
		text.WriteString(strings.Repeat("}", open-d))
		open = d
		text.WriteString("domain n" + strconv.Itoa(i))
		if i+1 < len(depths) && depths[i+1] > d {
			text.WriteString("{")
			open++
			continue
		}
		text.WriteString(" cpus " + cpuset.Print(cpuset.Range(cpu, cpu+workers-1)) + ";")
		cpu += workers
	}
	text.WriteString(strings.Repeat("}", open))
	return must(t, text.String())
}

// depthsAtRandom is the depths of a tree's domains, so many more than one at most.
func depthsAtRandom(r *rand.Rand, more int) []int {
	depths := []int{0}
	for range r.Intn(more + 1) {
		depths = append(depths, 1+r.Intn(min(depths[len(depths)-1]+1, api.MaxDepth-1)))
	}
	return depths
}

// isNumber tells whether d is a domain's number.
func isNumber(x api.Topo, d int) bool { return d >= 0 && d < len(x.Domains) }

// fitsOf is what the document says of Fits: worker by worker.
func fitsOf(x api.Topo, d int, may api.Set) bool {
	return isNumber(x, d) && slices.ContainsFunc(cpuset.List(x.Domains[d].Cpus), func(n int) bool { return cpuset.Has(may, n) })
}

// chooseOf is what the document says of Choose, step by step.
func chooseOf(x api.Topo, from int, may api.Set, free []int) (int, bool) {
	if !fitsOf(x, 0, may) {
		return 0, false
	}
	if !isNumber(x, from) {
		from = 0
	}
	for from != 0 {
		if fitsOf(x, from, may) && from < len(free) && free[from] > 0 {
			return from, true
		}
		from = x.Domains[from].Up
	}
	return 0, true
}

// hasAll tells whether the domain has all of may that are the machine's, and whether there are any.
func hasAll(x api.Topo, d int, may api.Set) (all, any bool) {
	all = true
	for _, n := range cpuset.List(x.Domains[0].Cpus) {
		if cpuset.Has(may, n) {
			any = true
			all = all && cpuset.Has(x.Domains[d].Cpus, n)
		}
	}
	return all, any
}

// widestOf is what the document says of Widest: each domain, and its parts, one by one.
func widestOf(t *testing.T, x api.Topo, may api.Set) (int, bool) {
	t.Helper()
	var found []int
	for d := range x.Domains {
		all, any := hasAll(x, d, may)
		for i, y := range x.Domains {
			if y.Up == d && all {
				part, _ := hasAll(x, i, may)
				all = !part
			}
		}
		if all && any {
			found = append(found, d)
		}
	}
	if len(found) == 0 {
		return 0, false
	}
	if len(found) > 1 {
		t.Fatalf("%s: %s: %v", topo.Print(x), cpuset.Print(may), found)
	}
	return found[0], true
}

// checkChoose checks Choose, what follows, and that what was handed in, its spare room included, stays what it was.
func checkChoose(t *testing.T, x api.Topo, from int, may api.Set, free []int) int { // P17.1, P17.3
	t.Helper()
	domains, row := slices.Clone(x.Domains), append(slices.Clone(free), 77)
	spare := slices.Clone(row)
	d, ok := home.Choose(x, from, may, row[:len(free)])
	if want, wok := chooseOf(x, from, may, free); d != want || ok != wok {
		t.Fatalf("%s: from %d, %s, room %v: %d, %t, not %d, %t", topo.Print(x), from, cpuset.Print(may), free, d, ok, want, wok)
	}
	if !slices.Equal(x.Domains, domains) || !slices.Equal(row, spare) {
		t.Fatal("what was handed in is another one", x, row)
	}
	if ok && !home.Fits(x, d, may) {
		t.Fatalf("%s: from %d, %s: %d has none of these", topo.Print(x), from, cpuset.Print(may), d)
	}
	for i := from; ok && isNumber(x, from) && i != d; i = x.Domains[i].Up {
		if home.Fits(x, i, may) && i < len(free) && free[i] > 0 {
			t.Fatalf("%s: from %d, %s, room %v: %d is nearer than %d", topo.Print(x), from, cpuset.Print(may), free, i, d)
		}
	}
	return d
}

// checkWidest checks Widest and Fits, and what follows.
func checkWidest(t *testing.T, x api.Topo, may api.Set) { // P17.1, P17.2, P17.5
	t.Helper()
	domains := slices.Clone(x.Domains)
	d, ok := home.Widest(x, may)
	if want, wok := widestOf(t, x, may); d != want || ok != wok {
		t.Fatalf("%s: %s: %d, %t, not %d, %t", topo.Print(x), cpuset.Print(may), d, ok, want, wok)
	}
	for _, n := range cpuset.List(may) {
		if cpuset.Has(x.Domains[0].Cpus, n) && !cpuset.Has(x.Domains[d].Cpus, n) {
			t.Fatalf("%s: %s: %d hasn't %d", topo.Print(x), cpuset.Print(may), d, n)
		}
	}
	for d := -2; d < len(x.Domains)+2; d++ {
		if got, want := home.Fits(x, d, may), fitsOf(x, d, may); got != want {
			t.Fatalf("%s: %s fits %d: %t", topo.Print(x), cpuset.Print(may), d, got)
		}
	}
	if !slices.Equal(x.Domains, domains) {
		t.Fatal("what was handed in is another one", x)
	}
}

func TestOwnExample(t *testing.T) { // P17.1
	x := must(t, small)
	for _, w := range []struct {
		from int
		free []int
		want int
	}{
		{1, []int{8, 8, 8}, 0}, {2, []int{8, 8, 8}, 2}, {2, []int{8, 8, 0}, 0}, {2, []int{0, 0, 1}, 2}, {2, []int{8, 8}, 0}, {2, nil, 0}, {0, []int{8, 8, 8}, 0}, {0, nil, 0},
	} {
		if got, ok := home.Choose(x, w.from, cpuset.Of(1), w.free); got != w.want || !ok {
			t.Errorf("from %d, room %v: %d, %t, not %d", w.from, w.free, got, ok, w.want)
		}
	}
}

func TestFits(t *testing.T) { // P17.1
	x := must(t, wide)
	for _, w := range []struct {
		d    int
		may  api.Set
		want bool
	}{
		{0, cpuset.Of(0), true}, {0, cpuset.Of(1023), true}, {0, cpuset.Of(9), false}, {0, cpuset.Of(9, 1023), true}, {0, api.Set{}, false}, {0, all, true},
		{2, cpuset.Of(0), true}, {2, cpuset.Of(1), false}, {2, cpuset.Of(1, 2, 3, 0), true}, {2, cpuset.Range(1, 1023), false}, {2, all, true},
		{1, cpuset.Of(3), true}, {1, cpuset.Of(4), false}, {3, cpuset.Of(2), true}, {3, cpuset.Of(0, 3), false},
		{12, cpuset.Of(64), true}, {12, cpuset.Of(1023), true}, {12, cpuset.Of(65), false}, {12, cpuset.Range(9, 63), false}, {12, cpuset.Range(65, 1022), false},
		{-1, all, false}, {13, all, false}, {14, all, false},
	} {
		if got := home.Fits(x, w.d, w.may); got != w.want {
			t.Errorf("%d, %s: %t", w.d, cpuset.Print(w.may), got)
		}
	}
	for _, d := range nones {
		if home.Fits(x, d, all) || home.Fits(api.Topo{}, d, all) {
			t.Errorf("%d, which is none's", d)
		}
	}
}

func TestChoose(t *testing.T) { // P17.1
	x := must(t, wide)
	room := slices.Repeat([]int{1}, 13)
	for _, w := range []struct {
		from int
		may  api.Set
		full []int
		want int
	}{
		{4, cpuset.Of(1), nil, 4}, {4, cpuset.Of(1), []int{4}, 3}, {4, cpuset.Of(1), []int{4, 3}, 1}, {4, cpuset.Of(1), []int{4, 3, 1}, 0}, {4, cpuset.Of(1), []int{4, 3, 1, 0}, 0}, // up, as the queues are full
		{4, cpuset.Of(2), nil, 3}, {4, cpuset.Of(0), nil, 1}, {4, cpuset.Of(3), nil, 1}, {4, cpuset.Of(4), nil, 0}, {4, cpuset.Of(1023), nil, 0}, // up, as the worker isn't there
		{4, cpuset.Of(2), []int{3}, 1}, {4, cpuset.Of(2), []int{3, 1}, 0}, {4, cpuset.Of(2), []int{5}, 3}, {4, cpuset.Of(0), []int{1}, 0}, // both
		{4, cpuset.Of(1, 7), nil, 4}, {4, cpuset.Of(2, 7), nil, 3}, {4, all, nil, 4}, {4, all, []int{4, 1}, 3},
		{3, cpuset.Of(1), nil, 3}, {3, cpuset.Of(0), nil, 1}, {1, cpuset.Of(0), nil, 1}, {1, cpuset.Of(7), nil, 0}, {0, cpuset.Of(0), nil, 0}, // from within, not down again
		{10, cpuset.Of(5), nil, 10}, {10, cpuset.Of(5), []int{10}, 9}, {10, cpuset.Of(6), nil, 8}, {10, cpuset.Of(6), []int{8}, 0}, {12, cpuset.Of(1023, 9), nil, 12}, {12, cpuset.Of(64), []int{12}, 0}, {7, cpuset.Of(3), nil, 0},
		{0, cpuset.Of(3), []int{0}, 0}, {12, cpuset.Of(0), []int{0}, 0}, // the first domain needs no room
	} {
		free := slices.Clone(room)
		for _, d := range w.full {
			free[d] = 0
		}
		if got, ok := home.Choose(x, w.from, w.may, free); got != w.want || !ok {
			t.Errorf("from %d, %s, full %v: %d, %t, not %d", w.from, cpuset.Print(w.may), w.full, got, ok, w.want)
		}
	}
}

func TestRoom(t *testing.T) { // P17.1: what is lacking is 0, and below it is none, too
	x := must(t, wide)
	for _, w := range []struct{ room, want int }{{1, 4}, {2, 4}, {math.MaxInt, 4}, {0, 3}, {-1, 3}, {math.MinInt, 3}} {
		if got, ok := home.Choose(x, 4, all, []int{0, 9, 0, 9, w.room}); got != w.want || !ok {
			t.Errorf("room %d: %d, %t", w.room, got, ok)
		}
	}
	for n, want := range []int{0, 0, 1, 1, 3, 4, 4, 4} {
		if got, ok := home.Choose(x, 4, all, slices.Repeat([]int{5}, n)); got != want || !ok {
			t.Errorf("of %d queues: %d, %t, not %d", n, got, ok, want)
		}
	}
}

func TestNobody(t *testing.T) { // P17.1, P17.2: none of may is among the machine's workers
	x := must(t, wide)
	room := slices.Repeat([]int{9}, 15)
	for _, may := range []api.Set{{}, cpuset.Of(9), cpuset.Of(63, 65, 1022), cpuset.Minus(all, x.Domains[0].Cpus)} {
		for from := -2; from < 15; from++ {
			if got, ok := home.Choose(x, from, may, room); got != 0 || ok {
				t.Errorf("from %d, %s: %d, %t", from, cpuset.Print(may), got, ok)
			}
		}
		if got, ok := home.Widest(x, may); got != 0 || ok {
			t.Errorf("%s: %d, %t", cpuset.Print(may), got, ok)
		}
	}
	for _, from := range nones {
		if got, ok := home.Choose(x, from, cpuset.Of(9), room); got != 0 || ok {
			t.Errorf("from %d: %d, %t", from, got, ok)
		}
		if got, ok := home.Choose(x, from, cpuset.Of(0, 9), room); got != 0 || !ok { // a from that is none's counts as 0
			t.Errorf("from %d: %d, %t", from, got, ok)
		}
		if got, ok := home.Choose(x, from, all, nil); got != 0 || !ok {
			t.Errorf("from %d: %d, %t", from, got, ok)
		}
	}
	if got, ok := home.Choose(x, 13, cpuset.Of(7), room); got != 0 || !ok {
		t.Errorf("%d, %t", got, ok)
	}
}

func TestWidest(t *testing.T) { // P17.2
	x := must(t, wide)
	for _, w := range []struct {
		may  api.Set
		want int
	}{
		{all, 0}, {x.Domains[0].Cpus, 0}, {cpuset.Of(0), 2}, {cpuset.Of(1), 4}, {cpuset.Of(2), 5}, {cpuset.Of(3), 6}, {cpuset.Of(4), 7}, {cpuset.Of(5), 10}, {cpuset.Of(6), 11}, {cpuset.Of(7), 12}, {cpuset.Of(1023), 12},
		{cpuset.Of(1, 2), 3}, {cpuset.Of(0, 1), 1}, {cpuset.Of(0, 3), 1}, {cpuset.Of(2, 3), 1}, {cpuset.Range(0, 3), 1}, {cpuset.Of(3, 4), 0}, {cpuset.Of(5, 6), 8}, {cpuset.Of(2, 1023), 0}, {cpuset.Of(7, 1023), 12}, {cpuset.Of(64, 1023), 12}, {cpuset.Of(6, 7), 0},
		{cpuset.Of(1, 9), 4}, {cpuset.Of(1, 2, 1022), 3}, {cpuset.Of(5, 63, 65), 10}, {cpuset.Range(8, 1023), 12}, {cpuset.Range(9, 1022), 12}, // with some that aren't the machine's
	} {
		if got, ok := home.Widest(x, w.may); got != w.want || !ok {
			t.Errorf("%s: %d, %t, not %d", cpuset.Print(w.may), got, ok, w.want)
		}
		checkWidest(t, x, w.may)
	}
	for _, w := range []struct { // a part that is all of it is taken, and its part
		text string
		want int
	}{
		{"domain a cpus 3;", 0}, {"domain m { domain a cpus 3; }", 1}, {"domain m { domain s { domain t { domain a cpus 3; } } }", 3}, {"domain m { domain s { domain a cpus 3; domain b cpus 5; } }", 2}, {"domain m { domain b cpus 4; domain s { domain a cpus 3; } }", 3},
	} {
		if got, ok := home.Widest(must(t, w.text), cpuset.Of(3)); got != w.want || !ok {
			t.Errorf("%s: %d, %t, not %d", w.text, got, ok, w.want)
		}
	}
}

// checkTree checks a tree of few domains: from each of them, with all sets of workers, and all rooms of 0 and 1.
func checkTree(t *testing.T, x api.Topo) { // P17.1 to P17.3, P17.5
	n := len(x.Domains)
	workers := cpuset.Len(x.Domains[0].Cpus)
	free := make([]int, n)
	for bits := range 1 << (workers + 1) { // the last one isn't the machine's
		may := api.Set{uint64(bits)}
		checkWidest(t, x, may)
		for rooms := range 1 << n {
			for d := range free {
				free[d] = rooms >> d & 1
			}
			for from := -1; from <= n; from++ {
				checkChoose(t, x, from, may, free)
			}
		}
	}
}

// checkTrees checks all trees of so many domains more at most, that begin with these depths.
func checkTrees(t *testing.T, depths []int, most int) {
	checkTree(t, tree(t, depths, 1))
	if most == 0 {
		return
	}
	for d := 1; d <= depths[len(depths)-1]+1; d++ {
		checkTrees(t, append(slices.Clone(depths), d), most-1)
	}
}

func TestAllSmallTrees(t *testing.T) { // P17.1 to P17.3, P17.5
	checkTrees(t, []int{0}, 4)
	checkTree(t, tree(t, []int{0, 1, 2, 2, 1}, 2))
	checkTree(t, tree(t, []int{0, 1, 2, 3, 4, 5, 6, 7}, 2))
}

// atRandom is a set of workers below most, and a room for about so many domains.
func atRandom(r *rand.Rand, domains, most int) (api.Set, []int) {
	var may api.Set
	for range r.Intn(4) {
		from := r.Intn(most)
		may = cpuset.Or(may, cpuset.Range(from, from+r.Intn(3)))
	}
	free := make([]int, max(domains+r.Intn(4)-1, 0))
	for d := range free {
		free[d] = r.Intn(4) - 1
	}
	return may, free
}

func TestTreesAtRandom(t *testing.T) { // P17.1 to P17.5
	r := rand.New(rand.NewSource(17))
	for range 300 {
		x := tree(t, depthsAtRandom(r, 40), 1+r.Intn(3))
		n, workers := len(x.Domains), cpuset.Len(x.Domains[0].Cpus)
		for range 60 {
			may, free := atRandom(r, n, workers+2)
			checkWidest(t, x, may)
			from := r.Intn(n+2) - 1
			d := checkChoose(t, x, from, may, free)
			if !home.Fits(x, 0, may) {
				continue
			}
			more := append(slices.Clone(free), 1)
			for i := range more {
				more[i] += r.Intn(2)
			}
			other, _ := atRandom(r, n, workers+2)
			for _, nearer := range []int{checkChoose(t, x, from, may, more), checkChoose(t, x, from, cpuset.Or(may, other), free)} { // P17.4: all are on one way up
				if x.Domains[nearer].Depth < x.Domains[d].Depth {
					t.Fatalf("%s: from %d, %s and %s, room %v and %v: %d, then %d", topo.Print(x), from, cpuset.Print(may), cpuset.Print(other), free, more, d, nearer)
				}
			}
		}
	}
}

func TestGreatestTree(t *testing.T) { // P17.1, P17.2: all domains, and all workers that there may be
	var text strings.Builder
	text.WriteString("domain m {")
	for i := range 1023 {
		text.WriteString(" domain s" + strconv.Itoa(i) + " { domain t" + strconv.Itoa(i) + " cpus " + strconv.Itoa(i) + " ; }")
	}
	text.WriteString(" domain u cpus 1023 ; }")
	x := must(t, text.String())
	room := slices.Repeat([]int{1}, api.MaxDomains)
	for _, w := range []struct{ from, worker, chosen, widest int }{
		{2, 0, 2, 2}, {2, 1, 0, 4}, {2047, 1023, 2047, 2047}, {2047, 1022, 0, 2046}, {2046, 1022, 2046, 2046}, {2045, 1022, 2045, 2046}, {2048, 1022, 0, 2046},
	} {
		if d, ok := home.Choose(x, w.from, cpuset.Of(w.worker), room); d != w.chosen || !ok {
			t.Errorf("from %d, %d: %d, %t, not %d", w.from, w.worker, d, ok, w.chosen)
		}
		if d, ok := home.Widest(x, cpuset.Of(w.worker)); d != w.widest || !ok {
			t.Errorf("%d: %d, %t, not %d", w.worker, d, ok, w.widest)
		}
	}
	if d, ok := home.Widest(x, all); d != 0 || !ok {
		t.Error(d, ok)
	}
	if home.Fits(x, 2048, all) || !home.Fits(x, 2047, cpuset.Of(1023)) {
		t.Error("fits")
	}
}

func TestTreesThatMayNotBe(t *testing.T) { // nothing is promised of these but an end
	r := rand.New(rand.NewSource(170))
	for range 5000 {
		x := api.Topo{Domains: make([]api.Domain, r.Intn(6))}
		for i := range x.Domains {
			x.Domains[i] = api.Domain{Up: r.Intn(9) - 2, Depth: r.Intn(9) - 2, Room: r.Intn(9) - 2, Leaf: r.Intn(2) == 0}
			x.Domains[i].Cpus, _ = atRandom(r, 0, 6)
		}
		may, free := atRandom(r, 6, 6)
		home.Widest(x, may)
		for d := -2; d < 8; d++ {
			home.Fits(x, d, may)
			home.Choose(x, d, may, free)
		}
		for _, d := range nones {
			home.Choose(x, d, may, free)
			if home.Fits(x, d, may) {
				t.Fatal(x, d)
			}
		}
	}
}
