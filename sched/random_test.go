package sched_test

import (
	"cmp"
	"math/rand"
	"reflect"
	"slices"
	"strconv"
	"strings"
	"testing"

	"pinfold/api"
	"pinfold/cpuset"
	"pinfold/prog"
	"pinfold/sched"
)

// pair is a machine and its model, which do the same.
type pair struct {
	m      *sched.Machine
	w      *model
	x      api.Topo
	c      api.Config
	stamps map[int]int // the machine's, by the model's
	last   int         // the machine's greatest so far
	before view
	told   []api.Event // by the last entry
}

func newPair(t *testing.T, x api.Topo, c api.Config) *pair {
	t.Helper()
	m := machine(t, x, c)
	return &pair{m: m, w: newModel(x, c), x: x, c: c, stamps: map[int]int{}, last: -1, before: look(m, x)}
}

// do lets both do an entry, and tells what they differ in.
func (p *pair) do(e api.Entry) string {
	p.w.told = nil
	got, want := p.m.Do(e), p.w.do(e)
	p.told = p.m.Events()
	if got != want || !slices.Equal(p.told, p.w.told) {
		return strconv.Itoa(int(got)) + " " + strings.Join(lines(p.told), " | ") + "\nnot " + strconv.Itoa(int(want)) + " " + strings.Join(lines(p.w.told), " | ")
	}
	v := look(p.m, p.x)
	if wrong := laws(p.x, p.c, p.before, v, p.told); wrong != "" {
		return wrong
	}
	p.before = look(p.m, p.x)
	return p.compare(v, p.w.look())
}

// compare tells in what both views differ, but for the stamps: those must be one each, rise alike, and stay.
func (p *pair) compare(got, want view) string {
	var both [][2]int
	for d := range got.Queues {
		if len(got.Queues[d]) != len(want.Queues[d]) {
			return "queue " + strconv.Itoa(d)
		}
		for i := range got.Queues[d] {
			both = append(both, [2]int{want.Queues[d][i].Stamp, got.Queues[d][i].Stamp})
			got.Queues[d][i].Stamp, want.Queues[d][i].Stamp = 0, 0
		}
		if len(want.Queues[d]) == 0 {
			got.Queues[d], want.Queues[d] = nil, nil
		}
	}
	slices.SortFunc(both, func(a, b [2]int) int { return cmp.Compare(a[0], b[0]) })
	for _, s := range both {
		old, is := p.stamps[s[0]]
		if is && old != s[1] || !is && s[1] <= p.last {
			return "stamp " + strconv.Itoa(s[1])
		}
		p.stamps[s[0]], p.last = s[1], max(p.last, s[1])
	}
	a, b := reflect.ValueOf(got), reflect.ValueOf(want)
	for i := range a.NumField() {
		if x, y := a.Field(i), b.Field(i); x.Kind() == reflect.Slice && x.Len() == 0 && y.Len() == 0 {
			continue
		} else if !reflect.DeepEqual(x.Interface(), y.Interface()) {
			return a.Type().Field(i).Name
		}
	}
	return ""
}

// anyTree is a tree with leaves of a worker or two each, and little room.
func anyTree(t *testing.T, r *rand.Rand) api.Topo {
	t.Helper()
	n, cpu, most := 0, r.Intn(3)*30, 3+r.Intn(2)*6
	var domain func(depth int) string
	domain = func(depth int) string {
		n++
		text := "domain d" + strconv.Itoa(n) + " queue " + strconv.Itoa(1+r.Intn(most))
		if depth < 3 && (depth == 0 && r.Intn(12) > 0 || r.Intn(3) == 0) {
			text += " {"
			for range 1 + r.Intn(3) {
				text += " " + domain(depth+1)
			}
			return text + " }"
		}
		cpu += 1 + r.Intn(2)*r.Intn(2)
		text += " cpus " + strconv.Itoa(cpu)
		if r.Intn(2) == 0 {
			cpu++
			text += "," + strconv.Itoa(cpu)
		}
		return text + ";"
	}
	return tree(t, domain(0))
}

// anyProg is a program of instructions of all kinds, with small numbers.
func anyProg(r *rand.Rand) api.Prog {
	n := 2 + r.Intn(9)
	p := api.Prog{Prio: r.Intn(2) * r.Intn(4)}
	for i := range n {
		x := api.Ins{Op: []int{api.InsSet, api.InsSet, api.InsSet, api.InsAdd, api.InsSub, api.InsJump, api.InsJnz, api.InsYield, api.InsSpawn, api.InsJoin, api.InsJoin, api.InsLock, api.InsLock, api.InsLock, api.InsUnlock, api.InsUnlock, api.InsSleep, api.InsMask, api.InsOut, api.InsOut}[r.Intn(20)], A: r.Intn(4)}
		if i == n-1 {
			x.Op = []int{api.InsExit, api.InsJump, api.InsJump}[r.Intn(3)]
		}
		switch x.Op {
		case api.InsAdd, api.InsSub, api.InsJoin:
			x.B = r.Intn(4)
		case api.InsSet:
			x.N = int32(r.Intn(8) - 1)
		case api.InsJump, api.InsJnz:
			x.N = int32(r.Intn(n))
		case api.InsSpawn, api.InsLock, api.InsUnlock:
			x.N = int32(r.Intn(4))
		case api.InsMask:
			x.N = int32(r.Intn(7))
		}
		if x.Op == api.InsJump || x.Op == api.InsYield {
			x.A = 0
		}
		p.Code = append(p.Code, x)
	}
	return p
}

// anyConfig is one for the tree: some masks of its workers, one of others, one of none.
func anyConfig(t *testing.T, r *rand.Rand, x api.Topo) api.Config {
	t.Helper()
	c := api.Config{Room: 1 + r.Intn(20), Locks: r.Intn(4), Masks: []api.Set{{}, cpuset.Of(1000)}}
	all := cpuset.List(x.Domains[0].Cpus)
	for range 4 {
		var s api.Set
		for range 1 + r.Intn(len(all)) {
			s = cpuset.Put(s, all[r.Intn(len(all))])
		}
		c.Masks = append(c.Masks, s)
	}
	for range 1 + r.Intn(4) {
		p := anyProg(r)
		if e, _ := prog.Check(p); e != api.OK {
			t.Fatal(p)
		}
		c.Progs = append(c.Progs, p)
	}
	return c
}

// often are kinds of entries, each as often as it comes; behind them those that come more often in scripts of two sorts.
var (
	often   = []int{api.EnTick, api.EnTick, api.EnNew, api.EnNew, api.EnMask, api.EnMask, api.EnPin, api.EnUnpin, api.EnOnline, api.EnOnline, api.EnOnline, api.EnOffline, api.EnOffline, api.EnBubble, api.EnPut, api.EnSeal, api.EnPlace, api.EnBurst, api.EnRegen, api.EnBalance}
	groups  = []int{api.EnBubble, api.EnPut, api.EnPut, api.EnPut, api.EnSeal, api.EnPlace, api.EnPlace, api.EnBurst, api.EnBurst, api.EnBurst, api.EnRegen, api.EnBurst, api.EnRegen}
	weights = []int{api.EnTick, api.EnTick, api.EnTick, api.EnTick, api.EnBalance, api.EnBalance, api.EnBalance, api.EnBalance, api.EnNew, api.EnNew}
)

// anyEntry is one for p: mostly steps, and numbers that mostly are something's.
func anyEntry(r *rand.Rand, p *pair, steps int, kinds []int) api.Entry {
	if r.Intn(100) == 0 {
		return api.Entry{Kind: r.Intn(20) - 2, A: r.Intn(40) - 2, B: r.Intn(40) - 2, C: r.Intn(7) - 2, Draw: uint(r.Intn(9))}
	}
	all := cpuset.List(p.x.Domains[0].Cpus)
	cpu := func() int { return all[r.Intn(len(all))] }
	if r.Intn(100) < steps {
		e := api.Entry{Kind: api.EnStep, A: cpu(), Draw: uint(r.Intn(9))}
		for r.Intn(8) > 0 && !cpuset.Has(p.m.Online(), e.A) {
			e.A = cpu()
		}
		return e
	}
	task := r.Intn(p.m.Tasks() + 1)
	e := api.Entry{Kind: kinds[r.Intn(len(kinds))], A: r.Intn(5), B: r.Intn(len(p.c.Masks)+1) - 1}
	switch e.Kind {
	case api.EnNew:
		e.A, e.C = r.Intn(len(p.c.Progs)), r.Intn(5)-1
	case api.EnMask, api.EnUnpin:
		e.A = task
	case api.EnPin:
		e.A, e.B = task, cpu()
	case api.EnPut:
		e.A, e.B = task, anyBubble(r, p, api.Open)
	case api.EnOnline, api.EnOffline:
		e.A = cpu()
	case api.EnBubble:
		e.A -= 3
	case api.EnSeal:
		e.A = anyBubble(r, p, api.Open)
	case api.EnPlace:
		e.A, e.B = anyBubble(r, p, api.Sealed), r.Intn(len(p.x.Domains))
	case api.EnBurst:
		e.A = anyBubble(r, p, api.Placed)
	case api.EnRegen:
		e.A = anyBubble(r, p, api.Burst)
	case api.EnBalance:
		e.A = r.Intn(1 + r.Intn(len(p.x.Domains)))
	}
	return e
}

// anyBubble is the number of a bubble, mostly of one in that state, if there is one.
func anyBubble(r *rand.Rand, p *pair, state int) int {
	var l []int
	for b, x := range p.before.Bubbles {
		if x.State == state {
			l = append(l, b)
		}
	}
	if len(l) == 0 || r.Intn(9) == 0 {
		return r.Intn(9) - 1
	}
	return l[r.Intn(len(l))]
}

// refusals are the kinds of entries, and the errors by which they may be refused (but of tick, which is so at MaxTime).
var refusals = [][2]int{{0, 1}, {api.EnStep, 1}, {api.EnStep, 5}, {api.EnNew, 1}, {api.EnNew, 4}, {api.EnNew, 6}, {api.EnMask, 1}, {api.EnMask, 3}, {api.EnMask, 5}, {api.EnMask, 6}, {api.EnPin, 3}, {api.EnPin, 5}, {api.EnPin, 6}, {api.EnUnpin, 3}, {api.EnUnpin, 5},
	{api.EnOnline, 5}, {api.EnOffline, 5}, {api.EnOffline, 7}, {api.EnBubble, 1}, {api.EnBubble, 5}, {api.EnBubble, 6}, {api.EnPut, 1}, {api.EnPut, 3}, {api.EnPut, 5}, {api.EnPut, 6}, {api.EnPut, 9}, {api.EnSeal, 3}, {api.EnSeal, 5}, {api.EnPlace, 3}, {api.EnPlace, 5}, {api.EnPlace, 6}, {api.EnBurst, 3}, {api.EnBurst, 5}, {api.EnRegen, 3}, {api.EnRegen, 5}, {api.EnBalance, 1}}

// tally is how often things happened.
type tally struct {
	events, stops, waits, masks, done map[int]int
	refused                           map[[2]int]int // by kinds and errors
}

func newTally() tally {
	return tally{map[int]int{}, map[int]int{}, map[int]int{}, map[int]int{}, map[int]int{}, map[[2]int]int{}}
}

// count counts what an entry did.
func (c tally) count(e api.Entry, l []api.Event) {
	for _, x := range l {
		c.events[x.Kind]++
		switch x.Kind {
		case api.EvStop:
			c.stops[x.A]++
		case api.EvWait:
			c.waits[x.A]++
		case api.EvMask:
			c.masks[x.A]++
		case api.EvFail:
			c.refused[[2]int{e.Kind, x.A}]++
			return
		}
	}
	c.done[e.Kind]++
}

// rare is what happened less than so often, of the numbers from 1 to most.
func rare(counts map[int]int, most, least int) []int {
	var l []int
	for n := range most {
		if counts[n+1] < least {
			l = append(l, n+1)
		}
	}
	return l
}

func TestRandomScripts(t *testing.T) { // P20.1 to P20.8: against the second reading, and the laws
	seen := newTally()
	for seed := range int64(400) {
		r := rand.New(rand.NewSource(seed))
		x := anyTree(t, r)
		p := newPair(t, x, anyConfig(t, r, x))
		steps := 20 + r.Intn(75)
		kinds := [][]int{often, slices.Concat(often, groups), slices.Concat(often, weights)}[seed%3]
		crowd := r.Intn(20)
		for i := range 250 {
			e := anyEntry(r, p, steps, kinds)
			if i < crowd {
				e = api.Entry{Kind: api.EnNew, A: r.Intn(len(p.c.Progs)), B: r.Intn(len(p.c.Masks)+9) - 9, C: -1}
				e.B = max(e.B, -1)
			}
			if wrong := p.do(e); wrong != "" {
				t.Fatalf("seed %d: entry %d, %v: %s", seed, i, e, wrong)
			}
			seen.count(e, p.told)
		}
	}
	if a, b, c, d := rare(seen.events, api.EvReg, 50), rare(seen.stops, api.WhyExit, 50), rare(seen.masks, 3, 50), rare(seen.done, api.EnBalance, 50); a != nil || b != nil || c != nil || d != nil {
		t.Error("hardly happened:", a, b, c, d)
	}
	for _, state := range []int{api.Sleeping, api.Blocked, api.Joining} {
		if seen.waits[state] < 50 {
			t.Error("hardly waited for:", state)
		}
	}
	for _, how := range refusals {
		if seen.refused[how] < 5 {
			t.Error("hardly refused:", how, seen.refused[how])
		}
	}
}
