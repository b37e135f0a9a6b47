package topo_test

import (
	"math/rand"
	"regexp"
	"slices"
	"strconv"
	"strings"
	"testing"

	"pinfold/api"
	"pinfold/cpuset"
	"pinfold/desc"
	"pinfold/topo"
)

func TestParse(t *testing.T) { // P3.1, P3.2
	leaf := func(name string, up, depth, room int, cpus ...int) api.Domain {
		return api.Domain{Name: name, Up: up, Depth: depth, Room: room, Cpus: cpuset.Of(cpus...), Leaf: true}
	}
	whole := func(name string, up, depth, room int, cpus ...int) api.Domain {
		return api.Domain{Name: name, Up: up, Depth: depth, Room: room, Cpus: cpuset.Of(cpus...)}
	}
	for _, x := range []struct {
		text string
		want []api.Domain
	}{
		{"domain a cpus 0;", []api.Domain{leaf("a", -1, 0, 8, 0)}},
		{"domain a cpus 1023,0-1;", []api.Domain{leaf("a", -1, 0, 8, 0, 1, 1023)}},
		{"domain a queue 1 cpus 7;", []api.Domain{leaf("a", -1, 0, 1, 7)}},
		{"domain a queue 8 cpus 7;", []api.Domain{leaf("a", -1, 0, 8, 7)}},
		{"domain a queue 1024 cpus 7;", []api.Domain{leaf("a", -1, 0, 1024, 7)}},
		{"domain m { domain a cpus 0-1; domain b queue 4 cpus 2; }", []api.Domain{whole("m", -1, 0, 8, 0, 1, 2), leaf("a", 0, 1, 8, 0, 1), leaf("b", 0, 1, 4, 2)}},
		{"domain m queue 3{domain a cpus 5;}", []api.Domain{whole("m", -1, 0, 3, 5), leaf("a", 0, 1, 8, 5)}},
		{"#{\ndomain#\nm\n{domain z{domain y{domain x cpus 3;}}domain w queue 2{domain v cpus 1;domain u cpus 2;}}\r\n# ;", []api.Domain{
			whole("m", -1, 0, 8, 1, 2, 3), whole("z", 0, 1, 8, 3), whole("y", 1, 2, 8, 3), leaf("x", 2, 3, 8, 3), whole("w", 0, 1, 2, 1, 2), leaf("v", 4, 2, 8, 1), leaf("u", 4, 2, 8, 2)}},
		{"domain domains{domain queues cpus 0;domain cpu cpus 1;}", []api.Domain{whole("domains", -1, 0, 8, 0, 1), leaf("queues", 0, 1, 8, 0), leaf("cpu", 0, 1, 8, 1)}},
	} {
		m, e, at := topo.Parse(x.text)
		if e != api.OK || at != (api.Place{}) || !slices.Equal(m.Domains, x.want) {
			t.Errorf("%q: %v, %d, %v", x.text, m, e, at)
		}
	}
}

// refused checks that Parse refuses a text at the place behind its first off bytes.
func refused(t *testing.T, text string, e api.Errno, off int) {
	t.Helper()
	m, got, at := topo.Parse(text)
	if len(m.Domains) != 0 || got != e || at != desc.At(text, off) {
		t.Errorf("%.80q: %d domains, %d, %v, not %d, %d", text, len(m.Domains), got, at, e, off)
	}
}

func TestParseRefuses(t *testing.T) { // P3.2
	for _, x := range []struct {
		text string // it is wrong at the ^, which isn't in it
		e    api.Errno
	}{
		{"^a", api.ErrToken}, {"^{", api.ErrToken}, {"^;", api.ErrToken}, {"^0", api.ErrToken}, {"^queue", api.ErrToken}, {"^cpus 0;", api.ErrToken},
		{"domain ^domain", api.ErrToken}, {"domain ^queue", api.ErrToken}, {"domain ^cpus", api.ErrToken}, {"domain ^0", api.ErrToken}, {"domain ^{", api.ErrToken}, {"domain ^;", api.ErrToken}, {"domain ^}", api.ErrToken},
		{"domain a ^b", api.ErrToken}, {"domain a ^domain", api.ErrToken}, {"domain a ^0", api.ErrToken}, {"domain a ^;", api.ErrToken}, {"domain a ^}", api.ErrToken},
		{"domain a queue ^a", api.ErrToken}, {"domain a queue ^cpus", api.ErrToken}, {"domain a queue ^queue", api.ErrToken}, {"domain a queue ^{", api.ErrToken}, {"domain a queue ^;", api.ErrToken},
		{"domain a queue 1 ^queue 1", api.ErrToken}, {"domain a queue 1 ^1", api.ErrToken}, {"domain a queue 1 ^;", api.ErrToken}, {"domain a queue 1 ^}", api.ErrToken}, {"domain a queue 1 ^domain", api.ErrToken},
		{"domain a cpus ^a", api.ErrToken}, {"domain a cpus ^;", api.ErrToken}, {"domain a cpus ^{", api.ErrToken}, {"domain a cpus ^queue", api.ErrToken},
		{"domain a cpus 0 ^}", api.ErrToken}, {"domain a cpus 0 ^1;", api.ErrToken}, {"domain a cpus 0 ^queue 1;", api.ErrToken}, {"domain a cpus 0 ^{", api.ErrToken}, {"domain a cpus 0 ^domain", api.ErrToken},
		{"domain a cpus 0; ^;", api.ErrToken}, {"domain a cpus 0; ^}", api.ErrToken}, {"domain a cpus 0; ^domain b cpus 1;", api.ErrToken}, {"domain a cpus 0; # a\n ^0", api.ErrToken},
		{"domain m { ^}", api.ErrToken}, {"domain m { ^;", api.ErrToken}, {"domain m { ^a", api.ErrToken}, {"domain m { ^cpus 0; }", api.ErrToken}, {"domain m { ^queue 1", api.ErrToken}, {"domain m { ^{", api.ErrToken}, {"domain m { ^0", api.ErrToken},
		{"domain m { domain a cpus 0; ^; }", api.ErrToken}, {"domain m { domain a cpus 0; ^a", api.ErrToken}, {"domain m { domain a cpus 0; ^queue", api.ErrToken}, {"domain m { domain a cpus 0; ^{", api.ErrToken},
		{"domain m { domain a cpus 0; } ^;", api.ErrToken}, {"domain m { domain a cpus 0; } ^}", api.ErrToken}, {"domain m { domain a cpus 0; } ^domain b cpus 1;", api.ErrToken}, {"domain m { domain a cpus 0; } ^cpus", api.ErrToken},

		{"^", api.ErrEnd}, {" \n\t^", api.ErrEnd}, {"# domain a cpus 0;^", api.ErrEnd}, {"domain^", api.ErrEnd}, {"domain a^", api.ErrEnd}, {"domain a \n# b\n ^", api.ErrEnd}, {"domain a queue^", api.ErrEnd}, {"domain a queue 1^", api.ErrEnd},
		{"domain a cpus^", api.ErrEnd}, {"domain a cpus 0^", api.ErrEnd}, {"domain a {^", api.ErrEnd}, {"domain a queue 1 { ^", api.ErrEnd}, {"domain m { domain a cpus 0; ^", api.ErrEnd}, {"domain m { domain s { domain a cpus 0; }\n^", api.ErrEnd},

		{"domain m { domain ^m cpus 0; }", api.ErrName}, {"domain m { domain a cpus 0; domain ^a cpus 1; }", api.ErrName}, {"domain m { domain a { domain ^a", api.ErrName}, {"domain m { domain a { domain b cpus 0; } domain ^b {", api.ErrName}, {"domain m {\n domain s cpus 1;\n domain ^m", api.ErrName},

		{"domain a queue ^0 cpus 0;", api.ErrSize}, {"domain a queue ^00 cpus 0;", api.ErrSize}, {"domain a queue ^08 cpus 0;", api.ErrSize}, {"domain a queue ^1025 cpus 0;", api.ErrSize}, {"domain a queue ^10000 {", api.ErrSize},
		{"domain a queue ^1- cpus 0;", api.ErrSize}, {"domain a queue ^1-2 cpus 0;", api.ErrSize}, {"domain a queue ^1-1 cpus 0;", api.ErrSize}, {"domain a queue ^1, cpus 0;", api.ErrSize}, {"domain a queue ^1,2 cpus 0;", api.ErrSize}, {"domain a queue ^8-", api.ErrSize},
		{"domain a queue ^4294967297 cpus 0;", api.ErrSize}, {"domain a queue ^18446744073709551617 cpus 0;", api.ErrSize}, {"domain a queue ^99999999999999999999999999 cpus 0;", api.ErrSize},

		{"domain a cpus ^1024;", api.ErrCpu}, {"domain a cpus ^00;", api.ErrCpu}, {"domain a cpus ^0,;", api.ErrCpu}, {"domain a cpus ^0-;", api.ErrCpu}, {"domain a cpus ^3-1;", api.ErrCpu}, {"domain a cpus ^1,0-1;", api.ErrCpu}, {"domain a cpus ^0,,1;", api.ErrCpu}, {"domain a cpus ^0-1-2", api.ErrCpu},
		{"domain m { domain a cpus 0; domain b cpus ^0; }", api.ErrCpu}, {"domain m { domain a cpus 0-9; domain b cpus ^20,9; }", api.ErrCpu}, {"domain m { domain a { domain b cpus 5; } domain c {\ndomain d cpus ^4-6", api.ErrCpu},

		// the first one in the text's order
		{"domain m { domain a cpus ^1024; domain a queue 0 }", api.ErrCpu}, {"domain m { domain ^m queue 0 cpus 1024;", api.ErrName}, {"domain m queue ^0 cpus 1024", api.ErrSize}, {"domain m queue ^0 ;", api.ErrSize}, {"domain a cpus ^1024 }", api.ErrCpu}, {"domain a ^; 0 domain", api.ErrToken},
		{"domain m { domain a cpus 1; domain b cpus ^1", api.ErrCpu}, {"domain a queue ^1025", api.ErrSize}, {"domain m { domain ^m", api.ErrName},

		// layer 2's ahead of all else
		{"a ^A", api.ErrByte}, {"domain m { }\n\t^-", api.ErrByte}, {"domain a cpus 0;^\x00", api.ErrByte}, {"; ^" + strings.Repeat("n", api.MaxName+1), api.ErrBig}, {"domain a cpus 0; ^" + strings.Repeat("n", api.MaxName+1), api.ErrBig}, {"^ ;" + strings.Repeat("#", api.MaxText), api.ErrBig},
	} {
		off := strings.IndexByte(x.text, '^')
		refused(t, strings.ReplaceAll(x.text, "^", ""), x.e, off)
	}
}

func TestParseTooDeep(t *testing.T) { // P3.2
	most := deep(api.MaxDepth - 1)
	m := must(t, most+"domain a cpus 0;"+strings.Repeat("}", api.MaxDepth-1))
	if d := m.Domains[api.MaxDepth-1]; d.Depth != api.MaxDepth-1 || !d.Leaf {
		t.Error(d)
	}
	full := deep(api.MaxDepth)
	for _, x := range []string{"domain", "domain a cpus 0;", "domain domain", "domain d0 cpus 5-4", "domain ;"} {
		refused(t, full+x, api.ErrDepth, len(full))
	}
	for _, x := range []string{"}", "a", ";"} { // first what may not stand there at all
		refused(t, full+x, api.ErrToken, len(full))
	}
	refused(t, full, api.ErrEnd, len(full))
	wide := most + "domain a cpus 0; domain b { "
	refused(t, wide+"domain c cpus 1;", api.ErrDepth, len(wide))
	again := most + "domain a cpus 0; } domain b { domain c cpus 1; domain d { " // out of one, and deeper again
	refused(t, again+"domain e cpus 2;", api.ErrDepth, len(again))
}

func TestParseTooMany(t *testing.T) { // P3.2
	lone := "domain m { domain b cpus 1023 ;"
	open := strings.TrimSuffix(lone+pairs(1023, 5)[len("domain m {"):], "}") // as many domains as may be, the first one's } left out
	if m := must(t, open+"}"); len(m.Domains) != api.MaxDomains {
		t.Error(len(m.Domains))
	}
	for _, x := range []string{"domain", "domain x cpus 1;", "domain domain", "domain m"} {
		refused(t, open+x, api.ErrBig, len(open))
	}
	refused(t, open+"x", api.ErrToken, len(open))
	refused(t, open+"}domain", api.ErrToken, len(open)+1) // first that it may not stand there at all
	one := strings.TrimSuffix(pairs(1023, 5), "}")        // one domain less
	must(t, one+"domain x cpus 1023;}")
	refused(t, one+"domain x { domain y cpus 1023; } }", api.ErrBig, len(one)+len("domain x { "))

	chain := strings.TrimSuffix(pairs(1020, 5), "} }") + "domain w cpus 1020;"
	for i := range 5 {
		chain += "domain x" + strconv.Itoa(i) + " {"
	}
	last := chain + "domain y cpus 1021;" // as deep as may be, as many as may be
	if m := must(t, last+strings.Repeat("}", api.MaxDepth-1)); len(m.Domains) != api.MaxDomains || m.Domains[api.MaxDomains-1].Depth != api.MaxDepth-1 {
		t.Error(len(m.Domains))
	}
	refused(t, last+"domain z cpus 1022;", api.ErrBig, len(last))
	both := chain + "domain y {" // what comes is both: first too deep
	refused(t, both+"domain z cpus 1022;", api.ErrDepth, len(both))
	refused(t, both+"z", api.ErrToken, len(both))
}

func TestParseLongTexts(t *testing.T) { // P3.2
	text := "domain a cpus 0;"
	fill := strings.Repeat(" ", api.MaxText-len(text))
	must(t, fill+text)
	must(t, text+fill)
	refused(t, text+fill+" ", api.ErrBig, 0)
	refused(t, ";"+text+fill, api.ErrBig, 0)
	refused(t, "\n"+fill, api.ErrEnd, len(fill)+1)
	list := "0" + strings.Repeat(",0", 30000)
	refused(t, "domain a cpus "+list+";", api.ErrCpu, len("domain a cpus "))
	refused(t, "domain a queue "+strings.Repeat("1", 60000), api.ErrSize, len("domain a queue "))
	refused(t, strings.Repeat("{", api.MaxText), api.ErrToken, 0)
}

// comes is the grammar, as what may come behind what: by the place in it the token's form, and the place behind that.
var comes = map[string]map[string]string{
	"a domain":       {"domain": "its name"},
	"its name":       {"name": "what it has"},
	"what it has":    {"queue": "its room", "{": "its first part", "cpus": "its workers"},
	"its room":       {"list": "what is in it"},
	"what is in it":  {"{": "its first part", "cpus": "its workers"},
	"its workers":    {"list": "the leaf's end"},
	"the leaf's end": {";": "one is whole"},
	"its first part": {"domain": "its name"},
	"one is whole":   {"domain": "its name", "}": "one is whole"},
}

// form is what the grammar calls a token.
func form(k api.Token) string {
	switch {
	case k.Kind == api.TokList:
		return "list"
	case desc.IsName(k.Text):
		return "name"
	}
	return k.Text
}

// reading is a text that is read by the grammar's places, and what of the tree is there.
type reading struct {
	place string
	open  []int // the domains that wait for their }
	tree  []api.Domain
}

var roomForm = regexp.MustCompile(`^[1-9][0-9]{0,3}$`)

// fault is what the document says is wrong with a token that may stand where it does.
func (r *reading) fault(k api.Token) api.Errno {
	isIn := func(is func(api.Domain) bool) bool { return slices.ContainsFunc(r.tree, is) }
	switch n, _ := strconv.Atoi(k.Text); {
	case k.Text == "domain" && len(r.open) >= 8:
		return api.ErrDepth
	case k.Text == "domain" && len(r.tree) >= 2048:
		return api.ErrBig
	case r.place == "its name" && isIn(func(d api.Domain) bool { return d.Name == k.Text }):
		return api.ErrName
	case r.place == "its room" && (!roomForm.MatchString(k.Text) || n > 1024):
		return api.ErrSize
	case r.place == "its workers":
		s, e, _ := cpuset.Parse(k.Text)
		if e != api.OK || isIn(func(d api.Domain) bool { return d.Leaf && cpuset.Meets(d.Cpus, s) }) {
			return api.ErrCpu
		}
	}
	return api.OK
}

// lay puts what a token says into the tree.
func (r *reading) lay(k api.Token) {
	last := len(r.tree) - 1
	switch {
	case r.place == "its name":
		up := -1
		if len(r.open) > 0 {
			up = r.open[len(r.open)-1]
		}
		r.tree = append(r.tree, api.Domain{Name: k.Text, Up: up, Depth: len(r.open), Room: 8})
	case r.place == "its room":
		r.tree[last].Room, _ = strconv.Atoi(k.Text)
	case r.place == "its workers":
		s, _, _ := cpuset.Parse(k.Text)
		r.tree[last].Leaf, r.tree[last].Cpus = true, s
		for _, up := range r.open {
			r.tree[up].Cpus = cpuset.Or(r.tree[up].Cpus, s)
		}
	case k.Text == "{":
		r.open = append(r.open, last)
	case k.Text == "}":
		r.open = r.open[:len(r.open)-1]
	}
}

// isWhole tells whether the description is.
func (r *reading) isWhole() bool { return r.place == "one is whole" && len(r.open) == 0 }

// read is what the document says of a text, told by what may come behind what.
func read(text string) ([]api.Domain, api.Errno, api.Place) {
	l, e, at := desc.All(text)
	if e != api.OK {
		return nil, e, at
	}
	r := reading{place: "a domain"}
	for _, k := range l {
		behind, may := comes[r.place][form(k)]
		if !may || r.isWhole() {
			return nil, api.ErrToken, k.At
		}
		if e := r.fault(k); e != api.OK {
			return nil, e, k.At
		}
		r.lay(k)
		r.place = behind
	}
	if !r.isWhole() {
		return nil, api.ErrEnd, desc.At(text, len(text))
	}
	return r.tree, api.OK, api.Place{}
}

// check holds all that is promised of a text against what is answered.
func check(t *testing.T, text string) api.Errno {
	t.Helper()
	x, e, at := topo.Parse(text)
	tree, wantE, wantAt := read(text)
	if !slices.Equal(x.Domains, tree) || e != wantE || at != wantAt {
		t.Fatalf("%q: %v, %d, %v, not %v, %d, %v", text, x, e, at, tree, wantE, wantAt)
	}
	if e == api.OK {
		checkMay(t, x)
		checkParts(t, x)
	}
	return e
}

// pieces are tokens of each form, some of which may not be where their form may.
var pieces = []string{"domain", "a", "b", "queue", "1", "cpus", "2-", "{", "}", ";"}

// checkBehind checks all texts that begin with text and have so many tokens more at most, as far as what is ahead of the last one may be.
func checkBehind(t *testing.T, text string, most int) {
	if e := check(t, text); e != api.OK && e != api.ErrEnd || most == 0 {
		return
	}
	for _, p := range pieces {
		checkBehind(t, text+p+" ", most-1)
	}
}

func TestParseAllShortTexts(t *testing.T) { // P3.1 to P3.6
	checkBehind(t, "", 12)
	checkBehind(t, "domain m { domain c cpus 0; ", 10)
	checkBehind(t, "domain m { domain s { domain c cpus 0; domain d cpus 3; ", 8)
	checkBehind(t, deep(6), 8)
}

// grow is a description at random, of a domain with depth around it, that has some of the workers l.
func grow(r *rand.Rand, name *int, l []int, depth int) string {
	text := "domain n" + strconv.Itoa(*name)
	*name++
	if r.Intn(3) == 0 {
		text += " queue " + strconv.Itoa(1+r.Intn(12))
	}
	if depth == api.MaxDepth-1 || len(l) == 1 || r.Intn(4) == 0 {
		list := ""
		for _, n := range l {
			list += "," + strconv.Itoa(n)
		}
		return text + " cpus " + list[1:] + ";"
	}
	text += "{"
	for len(l) > 0 {
		n := 1 + r.Intn(len(l))
		text += grow(r, name, l[:n], depth+1)
		l = l[n:]
	}
	return text + "}"
}

func TestParseAtRandom(t *testing.T) { // P3.1 to P3.6
	r := rand.New(rand.NewSource(3))
	right := 0
	for range 1500 {
		name := 0
		l := r.Perm(api.MaxCpu)[:1+r.Intn(12)]
		text := grow(r, &name, l, 0)
		if check(t, text) != api.OK {
			t.Fatalf("%q", text)
		}
		k, _, _ := desc.All(text)
		for range 8 { // a token is another one, twice there, or gone
			at := r.Intn(len(k))
			worse := slices.Clone(k)
			switch r.Intn(3) {
			case 0:
				worse[at].Text = k[r.Intn(len(k))].Text
			case 1:
				worse = slices.Insert(worse, at, k[r.Intn(len(k))])
			case 2:
				worse = slices.Delete(worse, at, at+1)
			}
			if check(t, desc.Print(worse)) == api.OK {
				right++
			}
		}
	}
	if right == 0 || right > 6000 {
		t.Error(right)
	}
}

func FuzzParse(f *testing.F) { // P3.1 to P3.6
	for _, text := range append([]string{"", "domain m { }", "domain m { domain m cpus 0; }", "domain a queue 08 cpus 1;", deep(9)}, some...) {
		f.Add(text)
	}
	f.Fuzz(func(t *testing.T, text string) { check(t, text) })
}
