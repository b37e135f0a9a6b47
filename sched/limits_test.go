package sched_test

import (
	"math/rand"
	"strconv"
	"strings"
	"testing"

	"pinfold/api"
	"pinfold/cpuset"
)

// greatest is a tree of MaxDomains domains with all workers there may be.
func greatest(t *testing.T) api.Topo {
	t.Helper()
	var text strings.Builder
	text.WriteString("domain m{")
	for i := range api.MaxCpu - 1 { // two domains each, and one more
		n := strconv.Itoa(i)
		text.WriteString("domain s" + n + "{domain l" + n + " cpus " + n + ";}")
	}
	text.WriteString("domain z cpus 1023;}")
	return tree(t, text.String())
}

func TestGreatest(t *testing.T) {
	x := greatest(t)
	if n := len(x.Domains); n != api.MaxDomains {
		t.Fatal(n)
	}
	c := config(t, "yield, lock r0 0, yield, unlock r0 0, jump 0", "spawn r0 0, yield, jump 0")
	c.Room = api.MaxTasks
	p := newPair(t, x, c)
	r := rand.New(rand.NewSource(3))
	for i := range 300 {
		e := api.Entry{Kind: api.EnStep, A: r.Intn(api.MaxCpu), Draw: uint(r.Int())}
		switch {
		case i < 100:
			e = api.Entry{Kind: api.EnNew, A: i % 2, B: -1, C: -1}
		case i%10 == 0:
			e = api.Entry{Kind: api.EnOffline, A: r.Intn(api.MaxCpu)}
		case i%2 == 0 && p.m.Tasks() > 0:
			e.A = i / 4 // some workers again and again
		}
		if wrong := p.do(e); wrong != "" {
			t.Fatalf("entry %d, %v: %s", i, e, wrong)
		}
	}
}

func TestAllTasks(t *testing.T) { // as many as there may be wait in the whole's queue, and are parked, and come back
	x := tree(t, wide)
	c := config(t, busyCode)
	c.Room = api.MaxTasks
	m := machine(t, x, c)
	for range api.MaxTasks {
		if e := m.Do(api.Entry{Kind: api.EnNew, B: 4, C: -1}); e != api.OK {
			t.Fatal(e)
		}
	}
	if e := m.Do(api.Entry{Kind: api.EnNew, B: 4, C: -1}); e != api.ErrFull || len(m.Queue(0)) != api.MaxTasks {
		t.Error(e)
	}
	for _, text := range []string{"offline 0", "offline 1", "online 1"} {
		before := look(m, x)
		m.Events()
		if e := m.Do(entry(t, text)); e != api.OK {
			t.Fatal(text, e)
		}
		if wrong := laws(x, c, before, look(m, x), m.Events()); wrong != "" {
			t.Fatal(text, wrong)
		}
	}
	if a, b, all := len(m.Queue(3)), len(m.Queue(1)), len(m.Queue(0)); a != 8 || b != 2 || all != api.MaxTasks-10 {
		t.Error(a, b, all)
	}
	if s := m.Online(); s != cpuset.Of(1, 2, 700) {
		t.Error(s)
	}
}
