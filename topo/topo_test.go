package topo_test

import (
	"math"
	"slices"
	"strconv"
	"strings"
	"testing"

	"pinfold/api"
	"pinfold/cpuset"
	"pinfold/desc"
	"pinfold/topo"
)

// strange are numbers that are no domain's, and no worker's.
var strange = []int{-1, -2, -64, 1 << 12, 1 << 40, math.MinInt, math.MaxInt}

// small is the tree of the document's own example.
const small = "domain m { domain a cpus 0-1 ; domain b queue 4 cpus 2 ; }"

// some are descriptions, as they are printed, of many shapes.
var some = []string{
	"domain a cpus 0 ;",
	"domain m queue 1024 cpus 0-1023 ;",
	small,
	"domain m { domain a cpus 1023 ; }",
	"domain m queue 1 { domain s { domain a cpus 0 ; domain b cpus 1 ; } domain c cpus 2 ; }",
	"domain m { domain c cpus 9 ; domain s queue 7 { domain a queue 9 cpus 0,2,4 ; domain b cpus 1,3 ; domain t { domain d cpus 5-8 ; } } domain e cpus 10-20,64 ; }",
	"domain a { domain b { domain c { domain d { domain e { domain f { domain g { domain h cpus 7 ; } } domain i cpus 8 ; } } } } domain j { domain k cpus 1 ; } }",
}

// must is the tree that a description which may be describes.
func must(t *testing.T, text string) api.Topo {
	t.Helper()
	x, e, at := topo.Parse(text)
	if e != api.OK || at != (api.Place{}) {
		t.Fatalf("%.80q: %d, %v", text, e, at)
	}
	return x
}

// cloned is x in memory of its own.
func cloned(x api.Topo) api.Topo { return api.Topo{Domains: slices.Clone(x.Domains)} }

// pairs is the description of a machine of so many parts with a part each, that has a worker; every one named by width bytes.
func pairs(count, width int) string {
	name := func(kind string, i int) string {
		digits := strconv.Itoa(i)
		return kind + strings.Repeat("_", width-1-len(digits)) + digits
	}
	var text strings.Builder
	text.WriteString("domain m {")
	for i := range count {
		text.WriteString(" domain " + name("s", i) + " { domain " + name("c", i) + " cpus " + strconv.Itoa(i) + " ; }")
	}
	text.WriteString(" }")
	return text.String()
}

// deep is the beginning of a description, in which so many domains lie in one another.
func deep(count int) string {
	var text strings.Builder
	for i := range count {
		text.WriteString("domain d" + strconv.Itoa(i) + " { ")
	}
	return text.String()
}

func TestPrint(t *testing.T) { // P3.3, P3.5
	for _, x := range []struct{ text, want string }{
		{"domain a cpus 0;", "domain a cpus 0 ;"},
		{"domain a queue 8 cpus 0;", "domain a cpus 0 ;"}, // the usual room isn't told
		{"domain a queue 9 cpus 0;", "domain a queue 9 cpus 0 ;"},
		{"domain a queue 1 cpus 3,0,1,2,9-9;", "domain a queue 1 cpus 0-3,9 ;"},
		{"# m\ndomain m{domain a\tcpus 0-1;\rdomain b queue 4 cpus 2;}#", small},
		{"domain m queue 1024{domain a{domain b cpus 5;}domain c queue 8{domain d cpus 4;}}", "domain m queue 1024 { domain a { domain b cpus 5 ; } domain c { domain d cpus 4 ; } }"},
	} {
		m := must(t, x.text)
		if got := topo.Print(m); got != x.want || !topo.May(m) {
			t.Errorf("%q: %q, not %q", x.text, got, x.want)
		}
	}
	for _, text := range some {
		m := must(t, text)
		was := cloned(m)
		if got := topo.Print(m); got != text || !topo.May(m) {
			t.Errorf("%q, not %q", got, text)
		}
		if !slices.Equal(m.Domains, was.Domains) {
			t.Error("the tree that was handed in is another one", m)
		}
	}
}

func TestMayOfLongDescriptions(t *testing.T) { // P3.3, P3.5
	tree := func(count, width, more int) (api.Topo, string) { // a tree that may be, with so many bytes more in its first names
		m := must(t, pairs(count, width))
		for i := 1; more > 0; i++ {
			put := min(more, api.MaxName-width)
			m.Domains[i].Name += strings.Repeat("z", put)
			more -= put
		}
		return m, pairs(count, width)
	}
	_, text := tree(700, 28, 0)
	spare := api.MaxText - len(text)
	for _, more := range []int{0, spare - 1, spare} {
		m, text := tree(700, 28, more)
		got := topo.Print(m)
		if !topo.May(m) || len(got) != len(text)+more {
			t.Errorf("%d bytes more than %d: %d", more, len(text), len(got))
		}
		if again := must(t, got); !topo.Same(again, m) {
			t.Error("another one, printed and parsed", more)
		}
	}
	long, _ := tree(700, 28, spare+1)
	if got := topo.Print(long); topo.May(long) || got != "" {
		t.Errorf("%d bytes", len(got))
	}
	tight := strings.NewReplacer(" ; ", ";", " { ", "{", " } ", "}").Replace(pairs(720, api.MaxName)) // Parse can answer it, but its description is too long
	if m := must(t, tight); topo.May(m) || topo.Print(m) != "" {
		t.Error("a description that is too long", len(tight))
	}
}

func TestMayOfManyDomains(t *testing.T) { // P3.3
	x := must(t, pairs(1023, 5))
	n, last := len(x.Domains), cpuset.Of(1023)
	x.Domains[0].Cpus = cpuset.Put(x.Domains[0].Cpus, 1023)
	most := append(cloned(x).Domains, api.Domain{Name: "s", Up: 0, Depth: 1, Room: 8, Cpus: last, Leaf: true})
	if len(most) != api.MaxDomains || !checkMay(t, api.Topo{Domains: most}) {
		t.Error("as many as may be", len(most))
	}
	more := append(cloned(x).Domains, api.Domain{Name: "s", Up: 0, Depth: 1, Room: 8, Cpus: last}, api.Domain{Name: "c", Up: n, Depth: 2, Room: 8, Cpus: last, Leaf: true})
	if len(more) != api.MaxDomains+1 || checkMay(t, api.Topo{Domains: more}) {
		t.Error("one more", len(more))
	}
	name := strings.Repeat("n", 1<<24)
	for i := range most {
		most[i].Name = name // written one behind the other, these wouldn't end for long
	}
	if checkMay(t, api.Topo{Domains: most}) {
		t.Error("names that are too long")
	}
}

// lies tells whether d is x's up, or that one's, and so on.
func lies(x api.Topo, i, d int) bool {
	for i = x.Domains[i].Up; i >= 0; i = x.Domains[i].Up {
		if i == d {
			return true
		}
	}
	return false
}

// hangs tells whether the domain i of x stands where a domain may stand, those ahead of it likewise.
func hangs(x api.Topo, i int) bool {
	d := x.Domains[i]
	if i == 0 {
		return d.Up == -1 && d.Depth == 0
	}
	if d.Up < 0 || d.Up >= i || x.Domains[d.Up].Leaf || d.Depth != x.Domains[d.Up].Depth+1 || d.Depth >= api.MaxDepth {
		return false
	}
	return d.Up == i-1 || lies(x, i-1, d.Up) // the parts of one stand behind it, nothing else between
}

// mayBe is what the document says of a tree that may be, told by its fields.
func mayBe(x api.Topo) bool {
	if len(x.Domains) == 0 || len(x.Domains) > api.MaxDomains {
		return false
	}
	parts := make([]int, len(x.Domains))
	cpus := make([]api.Set, len(x.Domains))
	names, taken := map[string]bool{}, api.Set{}
	for i, d := range x.Domains {
		if !hangs(x, i) || !desc.IsName(d.Name) || names[d.Name] || d.Room < 1 || d.Room > api.MaxRoom {
			return false
		}
		names[d.Name] = true
		if d.Up >= 0 {
			parts[d.Up]++
		}
		if d.Leaf && (d.Cpus == api.Set{} || cpuset.Meets(d.Cpus, taken)) {
			return false
		}
		for up := i; d.Leaf && up >= 0; up = x.Domains[up].Up {
			cpus[up] = cpuset.Or(cpus[up], d.Cpus)
		}
		taken = cpus[0]
	}
	for i, d := range x.Domains {
		if d.Leaf != (parts[i] == 0) || d.Cpus != cpus[i] {
			return false
		}
	}
	return len(printed(x, 0)) <= api.MaxText
}

// printed is what the document says of the description of d, which may be.
func printed(x api.Topo, d int) string {
	at := x.Domains[d]
	text := "domain " + at.Name
	if at.Room != 8 {
		text += " queue " + strconv.Itoa(at.Room)
	}
	if at.Leaf {
		return text + " cpus " + cpuset.Print(at.Cpus) + " ;"
	}
	text += " {"
	for i, k := range x.Domains {
		if k.Up == d {
			text += " " + printed(x, i)
		}
	}
	return text + " }"
}

// checkMay holds what is promised of any tree against what is answered; and calls all that take one.
func checkMay(t *testing.T, x api.Topo) bool {
	t.Helper()
	want, text := mayBe(x), ""
	if want {
		text = printed(x, 0)
	}
	if got := topo.May(x); got != want {
		t.Fatalf("%v: may be: %v", x, got)
	}
	if got := topo.Print(x); got != text {
		t.Fatalf("%v: %q, not %q", x, got, text)
	}
	if want {
		if again := must(t, text); !topo.Same(again, x) {
			t.Fatalf("%v: printed and parsed: %v", x, again)
		}
	}
	for d := range len(x.Domains) + 1 { // of one that may not be nothing is promised, but that they answer
		topo.Kids(x, d)
		topo.End(x, d)
		topo.Leaf(x, d)
	}
	topo.Find(x, "a")
	return want
}

// others are what x becomes with one field of the domain d another one.
func others(x api.Topo, d int) []api.Topo {
	var l []api.Topo
	with := func(change func(*api.Domain)) {
		y := cloned(x)
		change(&y.Domains[d])
		l = append(l, y)
	}
	for _, name := range []string{"", "z", "Z", "zZ", "0", "_", "z ", "domain", "queue", "cpus", "é", "z\n", "z#", "z cpus 99 ; domain y", strings.Repeat("z", api.MaxName), strings.Repeat("z", api.MaxName+1)} {
		with(func(at *api.Domain) { at.Name = name })
	}
	for n := -2; n <= len(x.Domains)+1; n++ {
		with(func(at *api.Domain) { at.Up = n })
		with(func(at *api.Domain) { at.Depth = n })
		with(func(at *api.Domain) { at.Room = n })
		with(func(at *api.Domain) { at.Cpus = cpuset.Put(at.Cpus, n) })
		with(func(at *api.Domain) { at.Cpus = cpuset.Drop(at.Cpus, n) })
		with(func(at *api.Domain) { at.Cpus = cpuset.Of(n) })
	}
	for _, n := range append([]int{api.MaxDepth, api.MaxRoom, api.MaxRoom + 1}, strange...) {
		with(func(at *api.Domain) { at.Up = n })
		with(func(at *api.Domain) { at.Depth = n })
		with(func(at *api.Domain) { at.Room = n })
	}
	with(func(at *api.Domain) { at.Leaf = !at.Leaf })
	with(func(at *api.Domain) { at.Leaf, at.Cpus = !at.Leaf, api.Set{} })
	for _, other := range x.Domains {
		with(func(at *api.Domain) { at.Name = other.Name })
		with(func(at *api.Domain) { at.Cpus = other.Cpus })
		with(func(at *api.Domain) { *at = other })
	}
	l = append(l, api.Topo{Domains: slices.Delete(cloned(x).Domains, d, d+1)}, api.Topo{Domains: slices.Insert(cloned(x).Domains, d, x.Domains[d])}, api.Topo{Domains: cloned(x).Domains[:d]})
	for i := range d {
		y := cloned(x)
		y.Domains[i], y.Domains[d] = y.Domains[d], y.Domains[i]
		l = append(l, y)
	}
	return l
}

func TestMay(t *testing.T) { // P3.3, P3.5
	may, mayNot := 0, 0
	for _, text := range some {
		x := must(t, text)
		if !checkMay(t, x) {
			t.Errorf("%q", text)
		}
		for d := range x.Domains {
			for _, y := range others(x, d) {
				if checkMay(t, y) {
					may++
				} else {
					mayNot++
				}
			}
		}
	}
	if may < 100 || mayNot < 1000 { // both are looked at
		t.Error(may, mayNot)
	}
	for _, x := range []api.Topo{{}, {Domains: []api.Domain{}}, {Domains: make([]api.Domain, 3)}, {Domains: make([]api.Domain, api.MaxDomains+1)}} {
		if checkMay(t, x) {
			t.Error(len(x.Domains))
		}
	}
}

func TestMayOfTwoChanges(t *testing.T) { // P3.3: what one change breaks another one may mend
	x := must(t, "domain m { domain a cpus 0 ; domain b cpus 1 ; }")
	mended := 0
	for d := range x.Domains {
		for _, y := range others(x, d) {
			for d := range y.Domains {
				for _, z := range others(y, d) {
					if checkMay(t, z) && !mayBe(y) {
						mended++
					}
				}
			}
		}
	}
	if mended == 0 {
		t.Error("none is mended")
	}
}

func TestMayOfDeepTrees(t *testing.T) { // P3.3
	x := must(t, deep(api.MaxDepth-1)+"domain a cpus 0;"+strings.Repeat("}", api.MaxDepth-1))
	if !checkMay(t, x) {
		t.Error("as deep as may be")
	}
	at := &x.Domains[api.MaxDepth-1]
	at.Leaf = false
	below := api.Domain{Name: "b", Up: api.MaxDepth - 1, Depth: api.MaxDepth, Room: 8, Cpus: at.Cpus, Leaf: true}
	x.Domains = append(x.Domains, below)
	if checkMay(t, x) {
		t.Error("deeper")
	}
}

// checkParts holds what the document says of the domains of a tree that may be against what Kids, End, Find and Leaf answer.
func checkParts(t *testing.T, x api.Topo) {
	t.Helper()
	owner := map[int]int{}
	for d, at := range x.Domains {
		var kids []int
		end, below := d+1, api.Set{}
		for i, k := range x.Domains {
			if k.Up == d {
				kids = append(kids, i)
				below = cpuset.Or(below, k.Cpus)
			}
			if lies(x, i, d) {
				end = i + 1
			}
		}
		if got := topo.Kids(x, d); !slices.Equal(got, kids) {
			t.Fatalf("%v: kids of %d: %v, not %v", x, d, got, kids)
		}
		if got := topo.End(x, d); got != end {
			t.Fatalf("%v: end of %d: %d, not %d", x, d, got, end)
		}
		for i := d + 1; i < end; i++ { // all below the end lie in it
			if !lies(x, i, d) {
				t.Fatalf("%v: %d isn't in %d", x, i, d)
			}
		}
		if got, ok := topo.Find(x, at.Name); got != d || !ok {
			t.Fatalf("%v: %q: %d, %v", x, at.Name, got, ok)
		}
		if !at.Leaf && at.Cpus != below { // P3.6
			t.Fatalf("%v: workers of %d: %v", x, d, at.Cpus)
		}
		for _, cpu := range cpuset.List(at.Cpus) {
			if other, is := owner[cpu]; at.Leaf && is { // P3.6
				t.Fatalf("%v: both %d and %d have %d", x, other, d, cpu)
			} else if at.Leaf {
				owner[cpu] = d
			}
		}
	}
	for cpu := range api.MaxCpu {
		want, is := owner[cpu]
		if got, ok := topo.Leaf(x, cpu); got != want || ok != is {
			t.Fatalf("%v: leaf of %d: %d, %v", x, cpu, got, ok)
		}
	}
}

func TestParts(t *testing.T) { // P3.4, P3.6
	for _, text := range some {
		checkParts(t, must(t, text))
	}
	x := must(t, some[5])
	for _, q := range []struct {
		d, end int
		kids   []int
	}{{0, 8, []int{1, 2, 7}}, {1, 2, nil}, {2, 7, []int{3, 4, 5}}, {3, 4, nil}, {5, 7, []int{6}}, {6, 7, nil}, {7, 8, nil}} {
		if kids, end := topo.Kids(x, q.d), topo.End(x, q.d); !slices.Equal(kids, q.kids) || end != q.end {
			t.Error(q, kids, end)
		}
	}
	if d, ok := topo.Find(x, "t"); d != 5 || !ok {
		t.Error(d, ok)
	}
	for _, q := range []struct{ cpu, d int }{{9, 1}, {4, 3}, {3, 4}, {5, 6}, {8, 6}, {64, 7}} {
		if d, ok := topo.Leaf(x, q.cpu); d != q.d || !ok {
			t.Error(q, d, ok)
		}
	}
}

func TestNoSuchDomain(t *testing.T) { // P3.4
	for _, text := range some {
		x := must(t, text)
		for _, d := range append([]int{len(x.Domains), len(x.Domains) + 1}, strange...) {
			if kids, end := topo.Kids(x, d), topo.End(x, d); len(kids) != 0 || end != 0 {
				t.Error(d, kids, end)
			}
		}
		for _, name := range []string{"", "none", "M", "m ", "domain", "queue", "cpus", "d\x00"} {
			if d, ok := topo.Find(x, name); d != 0 || ok {
				t.Errorf("%q: %d, %v", name, d, ok)
			}
		}
		for _, cpu := range strange {
			if d, ok := topo.Leaf(x, cpu); d != 0 || ok {
				t.Error(cpu, d, ok)
			}
		}
	}
	if d, ok := topo.Leaf(must(t, small), 3); d != 0 || ok {
		t.Error(d, ok)
	}
}

func TestSame(t *testing.T) { // P3.4
	if !topo.Same(api.Topo{}, api.Topo{}) || !topo.Same(api.Topo{}, api.Topo{Domains: []api.Domain{}}) {
		t.Error("none, however it is told")
	}
	for i, text := range some {
		x := must(t, text)
		if topo.Same(x, api.Topo{}) || topo.Same(api.Topo{}, x) {
			t.Errorf("%q and none", text)
		}
		for j, other := range some {
			if topo.Same(x, must(t, other)) != (i == j) {
				t.Errorf("%q, %q", text, other)
			}
		}
		for d := range x.Domains {
			for _, y := range others(x, d) { // trees that may not be are held against each other, too
				want := slices.Equal(x.Domains, y.Domains)
				if topo.Same(x, y) != want || topo.Same(y, x) != want || !topo.Same(y, cloned(y)) {
					t.Errorf("%v, %v", x, y)
				}
			}
		}
	}
	a := api.Domain{Name: "a", Up: 1, Depth: 2, Room: 3, Cpus: cpuset.Of(4)}
	for _, b := range []api.Domain{
		{Name: "b", Up: 1, Depth: 2, Room: 3, Cpus: cpuset.Of(4)},
		{Name: "a", Up: 2, Depth: 2, Room: 3, Cpus: cpuset.Of(4)},
		{Name: "a", Up: 1, Depth: 3, Room: 3, Cpus: cpuset.Of(4)},
		{Name: "a", Up: 1, Depth: 2, Room: 4, Cpus: cpuset.Of(4)},
		{Name: "a", Up: 1, Depth: 2, Room: 3, Cpus: cpuset.Of(1023)},
		{Name: "a", Up: 1, Depth: 2, Room: 3, Cpus: cpuset.Of(4), Leaf: true},
	} {
		if topo.Same(api.Topo{Domains: []api.Domain{a}}, api.Topo{Domains: []api.Domain{b}}) {
			t.Error(a, b)
		}
	}
}

func TestAnswersAreNew(t *testing.T) { // what is answered is the caller's own
	x := must(t, small)
	x.Domains[0], x.Domains[2].Name = api.Domain{}, "x"
	y := must(t, small)
	if topo.Print(y) != small {
		t.Error(y)
	}
	kids := topo.Kids(y, 0)
	kids[0] = 9
	if again := topo.Kids(y, 0); !slices.Equal(again, []int{1, 2}) || topo.Print(y) != small {
		t.Error(again, y)
	}
}
