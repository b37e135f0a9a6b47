package near_test

import (
	"math"
	"math/rand"
	"slices"
	"strconv"
	"strings"
	"testing"

	"pinfold/api"
	"pinfold/cpuset"
	"pinfold/near"
	"pinfold/topo"
)

// small is the document's own example: m 0, s 1, a 2, b 3, c 4.
const small = "domain m { domain s { domain a cpus 0; domain b cpus 1; } domain c cpus 2; }"

// wide has leaves of many depths: m 0, s 1 (a 2, t 3 (b 4, c 5), d 6), e 7, u 8 (v 9 (f 10), g 11), h 12.
const wide = "domain m { domain s { domain a cpus 0; domain t { domain b cpus 1; domain c cpus 2; } domain d cpus 3; } domain e cpus 4; domain u { domain v { domain f cpus 5; } domain g cpus 6; } domain h cpus 7; }"

// draws are usual ones, and those about the edges of the type.
var draws = []uint{0, 1, 2, 3, 4, 5, 6, 7, 11, 12, 59, 60, 64, 1000, 1 << 31, 1<<32 - 1, 1 << 32, 1<<32 + 1, 1<<63 - 1, 1 << 63, 1<<63 + 1, math.MaxUint - 1, math.MaxUint}

// must is the tree that a description describes.
func must(t *testing.T, text string) api.Topo {
	t.Helper()
	x, e, at := topo.Parse(text)
	if e != api.OK {
		t.Fatalf("%.80q: %d, %v", text, e, at)
	}
	return x
}

// tree is the tree whose domains have so many around them each.
func tree(t *testing.T, depths []int) api.Topo {
	t.Helper()
	var text strings.Builder
	open, cpu := 0, 0
	for i, d := range depths {
		text.WriteString(strings.Repeat("}", open-d))
		open = d
		text.WriteString("domain n" + strconv.Itoa(i))
		if i+1 < len(depths) && depths[i+1] > d {
			text.WriteString("{")
			open++
			continue
		}
		text.WriteString(" cpus " + strconv.Itoa(cpu) + ";")
		cpu++
	}
	text.WriteString(strings.Repeat("}", open))
	x := must(t, text.String())
	for i, d := range x.Domains {
		if d.Depth != depths[i] {
			t.Fatal(depths, x)
		}
	}
	return x
}

// isIn tells whether i lies in d: all from d on, up to i, have more around them than d.
func isIn(x api.Topo, i, d int) bool {
	if i <= d {
		return false
	}
	for _, y := range x.Domains[d+1 : i+1] {
		if y.Depth <= x.Domains[d].Depth {
			return false
		}
	}
	return true
}

// round is d and all those in which it lies, the deepest first.
func round(x api.Topo, d int) []int {
	l := []int{d}
	for i := d - 1; i >= 0; i-- {
		if isIn(x, d, i) {
			l = append(l, i)
		}
	}
	return l
}

// steps is how far it is from a to each domain, from a part to that in which it lies, or back, step by step.
func steps(x api.Topo, a int) []int {
	far := slices.Repeat([]int{-1}, len(x.Domains))
	far[a] = 0
	for row := []int{a}; len(row) > 0; {
		at := row[0]
		row = row[1:]
		for i, d := range x.Domains {
			if far[i] < 0 && (d.Up == at || x.Domains[at].Up == i) {
				far[i] = far[at] + 1
				row = append(row, i)
			}
		}
	}
	return far
}

// ringsOf is what the document says of d's rings.
func ringsOf(x api.Topo, d int) [][]int {
	var rings [][]int
	path := round(x, d)
	for i, up := range path[1:] {
		var ring []int
		for y := range x.Domains {
			if isIn(x, y, up) && !isIn(x, y, path[i]) && y != path[i] {
				ring = append(ring, y)
			}
		}
		if len(ring) > 0 {
			rings = append(rings, ring)
		}
	}
	return rings
}

// orderOf is what the document says of the order for a draw, of these rings.
func orderOf(rings [][]int, draw uint) []int {
	var l []int
	for _, ring := range rings {
		for i := range ring {
			l = append(l, ring[(int(draw%uint(len(ring)))+i)%len(ring)])
		}
	}
	return l
}

// sameRings tells whether both are the same.
func sameRings(a, b [][]int) bool { return slices.EqualFunc(a, b, slices.Equal[[]int]) }

// checkPaths checks what is promised of d's path, its socket, and where it meets others, and how far these are.
func checkPaths(t *testing.T, x api.Topo, d int) { // P4.1, P4.3
	t.Helper()
	path, far := round(x, d), steps(x, d)
	if got := near.Path(x, d); !slices.Equal(got, path) {
		t.Fatalf("%s: path of %d: %v, not %v", topo.Print(x), d, got, path)
	}
	socket := 0
	if d > 0 {
		socket = path[len(path)-2]
	}
	if got := near.Socket(x, d); got != socket {
		t.Fatalf("%s: socket of %d: %d, not %d", topo.Print(x), d, got, socket)
	}
	for b := range x.Domains {
		meet := 0
		for y := range x.Domains { // the deepest one that has both; two that do don't lie side by side
			if (y == d || isIn(x, d, y)) && (y == b || isIn(x, b, y)) {
				meet = y
			}
		}
		if got := near.Meet(x, d, b); got != meet {
			t.Fatalf("%s: %d and %d meet in %d, not %d", topo.Print(x), d, b, got, meet)
		}
		if got := near.Dist(x, d, b); got != far[b] {
			t.Fatalf("%s: from %d to %d: %d, not %d", topo.Print(x), d, b, got, far[b])
		}
	}
}

// checkOrder checks what is promised of d's rings, and of the order for a draw.
func checkOrder(t *testing.T, x api.Topo, d int, draw uint) { // P4.2, P4.5
	t.Helper()
	rings := ringsOf(x, d)
	if got := near.Rings(x, d); !sameRings(got, rings) {
		t.Fatalf("%s: rings of %d: %v, not %v", topo.Print(x), d, got, rings)
	}
	order := near.Order(x, d, draw)
	if want := orderOf(rings, draw); !slices.Equal(order, want) {
		t.Fatalf("%s: order of %d, %d: %v, not %v", topo.Print(x), d, draw, order, want)
	}
	often := make([]int, len(x.Domains))
	ahead := api.MaxDepth
	for _, y := range order {
		often[y]++
		depth := x.Domains[near.Meet(x, d, y)].Depth
		if depth > ahead {
			t.Fatalf("%s: order of %d, %d: %v: %d is nearer than one ahead of it", topo.Print(x), d, draw, order, y)
		}
		ahead = depth
	}
	for y, n := range often {
		want := 1
		if y == d || isIn(x, d, y) || isIn(x, y, d) {
			want = 0
		}
		if n != want {
			t.Fatalf("%s: order of %d, %d: %v has %d %d times", topo.Print(x), d, draw, order, y, n)
		}
	}
}

// checkFar checks the laws of how far domains are from one another.
func checkFar(t *testing.T, x api.Topo) { // P4.4
	t.Helper()
	n := len(x.Domains)
	far := make([][]int, n)
	for a := range n {
		for b := range n {
			far[a] = append(far[a], near.Dist(x, a, b))
		}
	}
	for a := range n {
		for b := range n {
			if far[a][b] < 0 || (far[a][b] == 0) != (a == b) || far[a][b] != far[b][a] {
				t.Fatalf("%s: from %d to %d: %d, back %d", topo.Print(x), a, b, far[a][b], far[b][a])
			}
			for c := range n {
				if far[a][b] > far[a][c]+far[c][b] {
					t.Fatalf("%s: from %d to %d by way of %d: less than %d", topo.Print(x), a, b, c, far[a][b])
				}
			}
		}
	}
}

// check checks all that is promised of a tree, for some draws, and that the tree stays what it was.
func check(t *testing.T, x api.Topo, draws ...uint) {
	t.Helper()
	was := slices.Clone(x.Domains)
	for d := range x.Domains {
		checkPaths(t, x, d)
		for _, draw := range draws {
			checkOrder(t, x, d, draw)
		}
	}
	checkFar(t, x)
	if !slices.Equal(x.Domains, was) {
		t.Fatal("the tree that was handed in is another one", x)
	}
}

func TestPath(t *testing.T) { // P4.1
	x := must(t, wide)
	for d, want := range [][]int{{0}, {1, 0}, {2, 1, 0}, {3, 1, 0}, {4, 3, 1, 0}, {5, 3, 1, 0}, {6, 1, 0}, {7, 0}, {8, 0}, {9, 8, 0}, {10, 9, 8, 0}, {11, 8, 0}, {12, 0}} {
		if got := near.Path(x, d); !slices.Equal(got, want) {
			t.Errorf("%d: %v, not %v", d, got, want)
		}
	}
	if got := near.Path(must(t, "domain a cpus 0;"), 0); !slices.Equal(got, []int{0}) {
		t.Error(got)
	}
}

func TestMeetAndDist(t *testing.T) { // P4.1
	x := must(t, wide)
	for _, w := range []struct{ a, b, meet, dist int }{
		{0, 0, 0, 0}, {4, 4, 4, 0}, {12, 12, 12, 0}, // one alone
		{4, 3, 3, 1}, {4, 1, 1, 2}, {4, 0, 0, 3}, {10, 8, 8, 2}, {12, 0, 0, 1}, // one in which it lies
		{4, 5, 3, 2}, {7, 12, 0, 2}, {2, 6, 1, 2}, // side by side
		{2, 4, 1, 3}, {2, 3, 1, 2}, {5, 6, 1, 3}, {4, 10, 0, 6}, {5, 7, 0, 4}, {10, 11, 8, 3}, {1, 10, 0, 4}, {3, 9, 0, 4}, {6, 12, 0, 3},
	} {
		if meet, dist := near.Meet(x, w.a, w.b), near.Dist(x, w.a, w.b); meet != w.meet || dist != w.dist {
			t.Errorf("%v: %d, %d", w, meet, dist)
		}
		if meet, dist := near.Meet(x, w.b, w.a), near.Dist(x, w.b, w.a); meet != w.meet || dist != w.dist {
			t.Errorf("%v, the other way: %d, %d", w, meet, dist)
		}
	}
}

func TestRings(t *testing.T) { // P4.2
	x := must(t, wide)
	for _, w := range []struct {
		d    int
		want [][]int
	}{
		{0, nil},
		{1, [][]int{{7, 8, 9, 10, 11, 12}}}, // what lies in it is none of the rings
		{2, [][]int{{3, 4, 5, 6}, {7, 8, 9, 10, 11, 12}}},
		{3, [][]int{{2, 6}, {7, 8, 9, 10, 11, 12}}},
		{4, [][]int{{5}, {2, 6}, {7, 8, 9, 10, 11, 12}}},
		{5, [][]int{{4}, {2, 6}, {7, 8, 9, 10, 11, 12}}},
		{7, [][]int{{1, 2, 3, 4, 5, 6, 8, 9, 10, 11, 12}}},
		{9, [][]int{{11}, {1, 2, 3, 4, 5, 6, 7, 12}}},
		{10, [][]int{{11}, {1, 2, 3, 4, 5, 6, 7, 12}}}, // v has nothing but f: no ring
		{12, [][]int{{1, 2, 3, 4, 5, 6, 7, 8, 9, 10, 11}}},
	} {
		if got := near.Rings(x, w.d); !sameRings(got, w.want) {
			t.Errorf("%d: %v, not %v", w.d, got, w.want)
		}
	}
	for _, text := range []string{"domain a cpus 0;", "domain a { domain b { domain c cpus 0; } }"} { // nothing is elsewhere
		x := must(t, text)
		for d := range x.Domains {
			if got := near.Rings(x, d); len(got) != 0 {
				t.Errorf("%s: %d: %v", text, d, got)
			}
			if got := near.Order(x, d, 3); len(got) != 0 {
				t.Errorf("%s: %d: %v", text, d, got)
			}
		}
	}
}

func TestOrder(t *testing.T) { // P4.2
	x := must(t, wide)
	for _, w := range []struct {
		d    int
		draw uint
		want []int
	}{
		{0, 7, nil},
		{4, 0, []int{5, 2, 6, 7, 8, 9, 10, 11, 12}},
		{4, 1, []int{5, 6, 2, 8, 9, 10, 11, 12, 7}},
		{4, 2, []int{5, 2, 6, 9, 10, 11, 12, 7, 8}},
		{4, 5, []int{5, 6, 2, 12, 7, 8, 9, 10, 11}},
		{4, 6, []int{5, 2, 6, 7, 8, 9, 10, 11, 12}}, // as many as the last ring has
		{4, 7, []int{5, 6, 2, 8, 9, 10, 11, 12, 7}},
		{4, 1 << 63, []int{5, 2, 6, 9, 10, 11, 12, 7, 8}},          // 2 modulo 6
		{4, math.MaxUint, []int{5, 6, 2, 10, 11, 12, 7, 8, 9}},     // 3 modulo 6
		{4, math.MaxUint - 1, []int{5, 2, 6, 9, 10, 11, 12, 7, 8}}, // 2 modulo 6
		{2, 3, []int{6, 3, 4, 5, 10, 11, 12, 7, 8, 9}},
		{7, 10, []int{12, 1, 2, 3, 4, 5, 6, 8, 9, 10, 11}},
		{10, 4, []int{11, 5, 6, 7, 12, 1, 2, 3, 4}},
	} {
		if got := near.Order(x, w.d, w.draw); !slices.Equal(got, w.want) {
			t.Errorf("%d, %d: %v, not %v", w.d, w.draw, got, w.want)
		}
	}
}

func TestSocket(t *testing.T) { // P4.3
	for d, want := range []int{0, 1, 1, 1, 1, 1, 1, 7, 8, 8, 8, 8, 12} {
		if got := near.Socket(must(t, wide), d); got != want {
			t.Errorf("%d: %d, not %d", d, got, want)
		}
	}
	if got := near.Socket(must(t, "domain a cpus 0;"), 0); got != 0 {
		t.Error(got)
	}
}

func TestSmall(t *testing.T) { // P4.1 to P4.5
	x := must(t, small)
	if got := near.Path(x, 2); !slices.Equal(got, []int{2, 1, 0}) {
		t.Error(got)
	}
	if got := near.Rings(x, 2); !sameRings(got, [][]int{{3}, {4}}) {
		t.Error(got)
	}
	if near.Dist(x, 2, 3) != 2 || near.Dist(x, 2, 4) != 3 || near.Socket(x, 2) != 1 {
		t.Error(near.Dist(x, 2, 3), near.Dist(x, 2, 4), near.Socket(x, 2))
	}
	check(t, x, draws...)
	check(t, must(t, wide), draws...)
}

// checkBehind checks all trees of so many domains more at most, that begin with these depths.
func checkBehind(t *testing.T, depths []int, most int) {
	check(t, tree(t, depths), 0, 1, 5, math.MaxUint)
	if most == 0 {
		return
	}
	for d := 1; d <= min(depths[len(depths)-1]+1, api.MaxDepth-1); d++ {
		checkBehind(t, append(slices.Clone(depths), d), most-1)
	}
}

func TestAllSmallTrees(t *testing.T) { // P4.1 to P4.5
	checkBehind(t, []int{0}, 7)
	checkBehind(t, []int{0, 1, 2, 3, 4, 5}, 3)
}

func TestTreesAtRandom(t *testing.T) { // P4.1 to P4.5
	r := rand.New(rand.NewSource(4))
	for range 150 {
		depths := []int{0}
		for range r.Intn(40) {
			depths = append(depths, 1+r.Intn(min(depths[len(depths)-1]+1, api.MaxDepth-1)))
		}
		check(t, tree(t, depths), uint(r.Intn(60)), uint(r.Uint64()))
	}
}

func TestDeepest(t *testing.T) { // P4.1 to P4.5: as deep as may be, twice
	depths := []int{0, 1, 2, 3, 4, 5, 6, 7, 7, 1, 2, 3, 4, 5, 6, 7}
	x := tree(t, depths)
	if got := near.Dist(x, 7, 15); got != 2*(api.MaxDepth-1) {
		t.Error(got)
	}
	if got := near.Path(x, 8); len(got) != api.MaxDepth {
		t.Error(got)
	}
	check(t, x, draws...)
}

func TestMostDomains(t *testing.T) { // P4.1 to P4.3, P4.5: as many as may be
	depths := []int{0}
	for range 1023 {
		depths = append(depths, 1, 2)
	}
	x := tree(t, append(depths, 1))
	last := len(x.Domains) - 1
	if last != api.MaxDomains-1 {
		t.Fatal(last)
	}
	for _, d := range []int{0, 1, 2, 1024, last - 1, last} {
		checkPaths(t, x, d)
		for _, draw := range []uint{0, 2044, 2045, 2046, 2047, math.MaxUint} {
			checkOrder(t, x, d, draw)
		}
	}
}

func TestNoSuchDomain(t *testing.T) { // nothing is promised of these, but that the calls end
	trees := []api.Topo{
		{},
		{Domains: []api.Domain{{}}},          // it lies in itself
		{Domains: []api.Domain{{Up: 1}, {}}}, // two in each other
		{Domains: []api.Domain{{Up: -9}, {Up: 5}, {Up: math.MinInt}, {Up: math.MaxInt}}},
		{Domains: []api.Domain{{Up: -1}, {Depth: 3}, {Up: 1, Depth: 1}, {Up: 1, Depth: 2}, {Up: 3, Depth: -1}}},
		{Domains: []api.Domain{{Up: -1}, {Up: -1}, {Up: 1, Depth: math.MinInt}, {Up: 2, Depth: math.MaxInt, Leaf: true, Cpus: cpuset.Of(3)}}},
		must(t, small),
	}
	for _, x := range trees {
		numbers := []int{-1, -2, len(x.Domains), len(x.Domains) + 1, 1 << 40, math.MinInt, math.MaxInt}
		for d := range x.Domains {
			numbers = append(numbers, d)
		}
		for _, a := range numbers {
			near.Path(x, a)
			near.Rings(x, a)
			near.Socket(x, a)
			near.Order(x, a, math.MaxUint)
			for _, b := range numbers {
				near.Meet(x, a, b)
				near.Dist(x, a, b)
			}
		}
	}
}

func TestAnswersAreNew(t *testing.T) { // what is answered is the caller's own
	x := must(t, wide)
	path, rings, order := near.Path(x, 4), near.Rings(x, 4), near.Order(x, 4, 0)
	for i := range rings {
		rings[i] = append(rings[i], -7)[:len(rings[i])] // a list's spare room is no other one's
	}
	if want := ringsOf(x, 4); !sameRings(rings, want) {
		t.Error(rings, want)
	}
	for _, l := range append(rings, path, order) {
		for i := range l {
			l[i] = -8
		}
	}
	check(t, x, 0, 1)
}
