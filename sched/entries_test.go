package sched_test

import (
	"slices"
	"testing"

	"pinfold/api"
	"pinfold/cpuset"
)

// oneEach is a config with a mask for each worker of the tree wide, and then those of both sockets and of worker 1 and 2.
func oneEach(t *testing.T, programs ...string) api.Config {
	c := config(t, programs...)
	c.Masks = []api.Set{cpuset.Of(0), cpuset.Of(1), cpuset.Of(2), cpuset.Of(700), cpuset.Of(0, 1), cpuset.Of(2, 700), cpuset.Of(1, 2)}
	return c
}

func TestMaskEntry(t *testing.T) { // P20.3: EnMask, and how tasks in each state settle
	m := stage(t, oneEach(t, busyCode, "sleep r0, exit r0"), `
		new 0 -1 -1 -> new 0 -1 0 -1 | ready 0 -1 0 0
		step 0 -> dispatch 0 0 0 0
		mask 0 4 -> mask 0 -1 1 0
		mask 0 7 -> fail -1 -1 1 0
		mask 0 -2 -> fail -1 -1 1 0
		mask 0 1 -> mask 0 -1 1 0 | stop 0 0 5 0 | ready 0 -1 1 0
		mask 0 6 -> mask 0 -1 1 0
		mask 0 4 -> mask 0 -1 1 0
		mask 0 2 -> mask 0 -1 1 0 | ready 0 -1 0 0
		mask 0 1 -> mask 0 -1 1 0
		mask 0 -1 -> mask 0 -1 1 0
		offline 0 -> offline -1 0 0 0
		mask 0 0 -> mask 0 -1 1 0 | park 0 -1 0 0
		mask 0 0 -> mask 0 -1 1 0
		mask 0 4 -> mask 0 -1 1 0 | ready 0 -1 0 0
		new 1 -1 -1 -> new 1 -1 1 -1 | ready 1 -1 0 0
		step 2 -> dispatch 1 2 0 0
		step 2 -> ins 1 2 11 0 | stop 1 2 3 0 | wait 1 2 3 1
		mask 1 1 -> mask 1 -1 1 0
		tick -> tick -1 -1 1 0 | ready 1 -1 0 0`)
	if s := m.Mask(1); s != cpuset.Of(1) {
		t.Error(s)
	}
}

func TestMaskOutsideBubble(t *testing.T) { // P20.3: a task that has no workers at all is parked, as no error is named for it
	stage(t, oneEach(t, busyCode), `
		new 0 -1 -1 -> new 0 -1 0 -1 | ready 0 -1 0 0
		bubble -1 4 -> bubble -1 -1 0 1
		put 0 0 -> mask 0 -1 3 0 | hold 0 -1 0 0
		mask 0 5 -> mask 0 -1 1 0
		mask 0 -1 -> mask 0 -1 1 0
		seal 0 -> bubble -1 -1 0 2
		place 0 1 -> bubble -1 -1 0 3
		burst 0 -> bubble -1 -1 0 4 | ready 0 -1 1 0
		mask 0 5 -> mask 0 -1 1 0 | park 0 -1 0 0
		mask 0 6 -> mask 0 -1 1 0 | ready 0 -1 0 0`)
}

func TestStopsWhereItRan(t *testing.T) { // P20.3: one that runs goes home from its leaf
	stage(t, oneEach(t, busyCode), `
		new 0 -1 -1 -> new 0 -1 0 -1 | ready 0 -1 0 0
		step 700 -> dispatch 0 700 0 0
		mask 0 2 -> mask 0 -1 1 0 | stop 0 700 5 0 | ready 0 -1 4 0
		step 2 -> dispatch 0 2 4 0
		offline 0 -> offline -1 0 0 0
		mask 0 0 -> mask 0 -1 1 0 | stop 0 2 5 0 | park 0 -1 0 0
		step 2 -> idle -1 2 0 0`)
}

func TestPin(t *testing.T) { // P20.3: EnPin, EnUnpin
	m := stage(t, oneEach(t, busyCode), `
		new 0 6 -1 -> new 0 -1 0 -1 | ready 0 -1 0 0
		unpin 0 -> fail -1 -1 5 0
		pin 0 0 -> fail -1 -1 6 0
		pin 0 3 -> fail -1 -1 1 0
		pin 0 -1 -> fail -1 -1 1 0
		step 1 -> dispatch 0 1 0 0
		pin 0 1 -> mask 0 -1 2 0
		pin 0 2 -> mask 0 -1 2 0 | stop 0 1 5 0 | ready 0 -1 0 0
		mask 0 1 -> fail -1 -1 6 0
		mask 0 8 -> fail -1 -1 1 0
		mask 0 5 -> mask 0 -1 1 0
		pin 0 1 -> fail -1 -1 6 0
		mask 0 -1 -> mask 0 -1 1 0
		pin 0 0 -> mask 0 -1 2 0
		offline 0 -> offline -1 0 0 0 | park 0 -1 0 0
		pin 0 0 -> mask 0 -1 2 0
		unpin 0 -> mask 0 -1 2 0 | ready 0 -1 0 0
		unpin 0 -> fail -1 -1 5 0
		pin 0 0 -> mask 0 -1 2 0 | park 0 -1 0 0
		pin 0 1 -> mask 0 -1 2 0 | ready 0 -1 0 0
		step 1 -> dispatch 0 1 0 0
		unpin 0 -> mask 0 -1 2 0`)
	for _, cpu := range wrongs {
		if e := m.Do(api.Entry{Kind: api.EnPin, B: cpu}); e != api.ErrArg {
			t.Error(cpu, e)
		}
	}
}

func TestQueueKnowsNewWorkers(t *testing.T) { // P20.3: one that stays waits with its workers as they are now, with its stamp
	m := stage(t, oneEach(t, busyCode), `
		new 0 0 -1 -> new 0 -1 0 -1 | ready 0 -1 0 0
		new 0 0 -1 -> new 1 -1 0 -1 | ready 1 -1 0 0
		step 2 -> idle -1 2 0 0
		mask 0 5 -> mask 0 -1 1 0
		step 0 -> dispatch 1 0 0 0
		pin 0 2 -> mask 0 -1 2 0
		step 700 -> idle -1 700 0 0
		unpin 0 -> mask 0 -1 2 0
		mask 1 -1 -> mask 1 -1 1 0
		step 700 -> dispatch 0 700 0 0`)
	m = stage(t, oneEach(t, busyCode), `
		new 0 0 -1 -> new 0 -1 0 -1 | ready 0 -1 0 0
		new 0 0 -1 -> new 1 -1 0 -1 | ready 1 -1 0 0
		mask 0 4 -> mask 0 -1 1 0`)
	if q := m.Queue(0); len(q) != 2 || q[0].Task != 0 || q[0].Mask != cpuset.Of(0, 1) || q[0].Moved || q[0].Stamp >= q[1].Stamp {
		t.Error(q)
	}
}

func TestOnline(t *testing.T) { // P20.3: EnOnline
	m := stage(t, oneEach(t, busyCode), `
		online 0 -> fail -1 -1 5 0
		online 3 -> fail -1 -1 1 0
		online -1 -> fail -1 -1 1 0
		offline 0 -> offline -1 0 0 0
		offline 2 -> offline -1 2 0 0
		new 0 2 -1 -> new 0 -1 0 -1 | park 0 -1 0 0
		new 0 0 -1 -> new 1 -1 0 -1 | park 1 -1 0 0
		new 0 -1 -1 -> new 2 -1 0 -1 | ready 2 -1 0 0
		new 0 2 -1 -> new 3 -1 0 -1 | park 3 -1 0 0
		mask 3 0 -> mask 3 -1 1 0
		new 0 0 -1 -> new 4 -1 0 -1 | park 4 -1 0 0
		online 0 -> online -1 0 0 0 | ready 1 -1 2 0 | ready 3 -1 1 0 | ready 4 -1 1 0
		online 0 -> fail -1 -1 5 0
		online 2 -> online -1 2 0 0 | ready 0 -1 4 0`)
	if s := m.Online(); s != cpuset.Of(0, 1, 2, 700) {
		t.Error(s)
	}
	for _, cpu := range wrongs {
		for _, kind := range []int{api.EnOnline, api.EnOffline} {
			if e := m.Do(api.Entry{Kind: kind, A: cpu}); e != api.ErrArg {
				t.Error(kind, cpu, e)
			}
		}
	}
}

func TestOffline(t *testing.T) { // P20.3: EnOffline: the queues' tasks go home ahead of the one that ran
	m := stage(t, oneEach(t, busyCode), `
		offline 3 -> fail -1 -1 1 0
		new 0 0 2 -> new 0 -1 0 -1 | ready 0 -1 0 0
		offline 0 -> offline -1 0 0 0 | park 0 -1 0 0
		offline 0 -> fail -1 -1 5 0
		new 0 0 -1 -> new 1 -1 0 -1 | park 1 -1 0 0
		new 0 4 1 -> new 2 -1 0 -1 | ready 2 -1 0 0
		new 0 4 1 -> new 3 -1 0 -1 | ready 3 -1 0 0
		offline 1 -> offline -1 1 0 0 | park 2 -1 0 0 | park 3 -1 0 0
		online 0 -> online -1 0 0 0 | ready 0 -1 2 0 | ready 1 -1 1 0 | ready 2 -1 1 0 | ready 3 -1 0 0
		online 1 -> online -1 1 0 0
		mask 0 4 -> mask 0 -1 1 0
		step 0 -> dispatch 0 0 2 0
		offline 0 -> stop 0 0 4 0 | offline -1 0 0 0 | park 1 -1 0 0 | ready 0 -1 1 0
		step 0 -> fail -1 -1 5 0`)
	if q := m.Queue(1); len(q) != 2 || q[0].Task != 0 || q[0].Prio != 2 || q[0].Moved || q[1].Task != 2 || q[1].Moved {
		t.Error(q)
	}
}

func TestOfflineMoves(t *testing.T) { // P20.3: from the domain's Up, with the old stamp, Moved, domain by domain, each in its queue's order
	m := stage(t, oneEach(t, "yield, jump 0"), `
		offline 2 -> offline -1 2 0 0
		offline 700 -> offline -1 700 0 0
		new 0 5 0 -> new 0 -1 0 -1 | park 0 -1 0 0
		new 0 5 1 -> new 1 -1 0 -1 | park 1 -1 0 0
		new 0 -1 -1 -> new 2 -1 0 -1 | ready 2 -1 0 0
		online 2 -> online -1 2 0 0 | ready 0 -1 4 0 | ready 1 -1 4 0
		mask 0 6 -> mask 0 -1 1 0
		mask 1 6 -> mask 1 -1 1 0
		step 1 -> dispatch 2 1 0 0
		mask 2 6 -> mask 2 -1 1 0
		step 1 -> ins 2 1 6 0 | stop 2 1 2 0 | ready 2 -1 3 0
		step 2 -> dispatch 1 2 4 0
		offline 2 -> stop 1 2 4 0 | offline -1 2 0 0 | ready 0 -1 0 0 | ready 1 -1 0 0
		offline 0 -> offline -1 0 0 0
		online 2 -> online -1 2 0 0
		offline 1 -> offline -1 1 0 0 | ready 2 -1 0 0`)
	q := m.Queue(0)
	if len(q) != 3 || q[0].Task != 1 || q[0].Moved || q[1].Task != 0 || !q[1].Moved || q[2].Task != 2 || !q[2].Moved {
		t.Fatal(q)
	}
	if q[1].Stamp >= q[2].Stamp || q[2].Stamp >= q[0].Stamp {
		t.Error(q)
	}
}

func TestOfflineStaysElsewhere(t *testing.T) { // P20.3: those that have another worker there stay, in all queues
	stage(t, oneEach(t, busyCode), `
		offline 2 -> offline -1 2 0 0
		new 0 2 -1 -> new 0 -1 0 -1 | park 0 -1 0 0
		new 0 2 -1 -> new 1 -1 0 -1 | park 1 -1 0 0
		new 0 5 -1 -> new 2 -1 0 -1 | ready 2 -1 0 0
		online 2 -> online -1 2 0 0 | ready 0 -1 4 0 | ready 1 -1 4 0
		mask 1 5 -> mask 1 -1 1 0
		mask 0 6 -> mask 0 -1 1 0
		offline 2 -> offline -1 2 0 0 | ready 0 -1 0 0
		offline 700 -> offline -1 700 0 0 | park 2 -1 0 0 | park 1 -1 0 0`)
}

func TestBubbleEntry(t *testing.T) { // P20.3: EnBubble
	m := stage(t, config(t, busyCode), `
		bubble 0 2 -> fail -1 -1 6 0
		bubble 0 5 -> fail -1 -1 1 0
		bubble 0 -1 -> fail -1 -1 1 0
		bubble -2 -1 -> fail -1 -1 1 0
		bubble -1 1 -> bubble -1 -1 0 1
		bubble 0 -1 -> bubble -1 -1 1 1
		seal 0 -> bubble -1 -1 0 2
		bubble 0 -1 -> fail -1 -1 5 0
		bubble 0 3 -> fail -1 -1 6 0`)
	for b, want := range []api.Bubble{{Up: -1, Mask: cpuset.Of(1, 2), State: api.Sealed}, {Up: 0, Mask: cpuset.Of(0, 1, 2, 700), State: api.Open}} {
		if x, ok := m.Bubble(b); !ok || x != want {
			t.Error(b, x)
		}
	}
	for range api.MaxBubbles - 2 {
		if e := m.Do(entry(t, "bubble -1 -1")); e != api.OK {
			t.Fatal(e)
		}
	}
	if e := m.Do(entry(t, "bubble -1 -1")); e != api.ErrFull {
		t.Error(e)
	}
}

func TestPut(t *testing.T) { // P20.3: EnPut: who runs, waits or is parked is held; who waits for something is so when it is told
	x := tree(t, wide)
	c := oneEach(t, busyCode, "sleep r0, lock r0 0, lock r0 0, exit r0", "lock r0 0, join r1 r2, exit r0")
	m := machine(t, x, c)
	play(t, m, x, c, `
		bubble -1 4 -> bubble -1 -1 0 1
		bubble -1 5 -> bubble -1 -1 1 1
		seal 1 -> bubble -1 -1 1 2
		new 0 5 -1 -> new 0 -1 0 -1 | ready 0 -1 0 0
		put 0 2 -> fail -1 -1 1 0
		put 0 -1 -> fail -1 -1 1 0
		put 0 1 -> fail -1 -1 5 0
		put 0 0 -> fail -1 -1 6 0
		mask 0 6 -> mask 0 -1 1 0
		put 0 0 -> mask 0 -1 3 0 | hold 0 -1 0 0
		put 0 2 -> fail -1 -1 9 0
		put 0 0 -> fail -1 -1 9 0
		new 0 6 -1 -> new 1 -1 0 -1 | ready 1 -1 0 0
		step 2 -> dispatch 1 2 0 0
		pin 1 2 -> mask 1 -1 2 0
		put 1 0 -> fail -1 -1 6 0
		unpin 1 -> mask 1 -1 2 0
		put 1 0 -> mask 1 -1 3 0 | stop 1 2 6 0 | hold 1 -1 0 0
		offline 0 -> offline -1 0 0 0
		new 0 0 -1 -> new 2 -1 0 -1 | park 2 -1 0 0
		put 2 0 -> mask 2 -1 3 0 | hold 2 -1 0 0
		online 0 -> online -1 0 0 0
		new 1 -1 -1 -> new 3 -1 1 -1 | ready 3 -1 0 0
		step 0 -> dispatch 3 0 0 0
		step 0 -> ins 3 0 11 0 | stop 3 0 3 0 | wait 3 0 3 1
		put 3 0 -> mask 3 -1 3 0
		tick -> tick -1 -1 1 0 | hold 3 -1 0 0`)
	if q := m.Queue(0); len(q) > 0 {
		t.Error(q)
	}
	for _, b := range wrongs {
		m.Do(entry(t, "new 0 -1 -1"))
		if e := m.Do(api.Entry{Kind: api.EnPut, A: 4, B: b}); e != api.ErrArg {
			t.Error(b, e)
		}
	}
}

func TestWokenInBubble(t *testing.T) { // P20.2, P20.4: who is told what it waited for is held, if its bubble isn't free
	stage(t, oneEach(t, "lock r0 0, yield, unlock r1 0, exit r0", "set r1 0, join r1 r2, exit r2"), `
		bubble -1 -1 -> bubble -1 -1 0 1
		new 0 0 -1 -> new 0 -1 0 -1 | ready 0 -1 0 0
		new 0 1 -1 -> new 1 -1 0 -1 | ready 1 -1 0 0
		new 1 2 -1 -> new 2 -1 1 -1 | ready 2 -1 0 0
		step 0 -> dispatch 0 0 0 0
		step 1 -> dispatch 1 1 0 0
		step 2 -> dispatch 2 2 0 0
		step 0 -> ins 0 0 9 0 | own 0 -1 0 1 | reg 0 -1 0 0
		step 1 -> ins 1 1 9 0 | stop 1 1 3 0 | wait 1 1 4 0
		step 2 -> ins 2 2 1 0
		step 2 -> ins 2 2 8 1 | stop 2 2 3 0 | wait 2 2 5 0
		put 1 0 -> mask 1 -1 3 0
		put 2 0 -> mask 2 -1 3 0
		step 0 -> ins 0 0 6 1 | stop 0 0 2 0 | ready 0 -1 2 0
		step 0 -> dispatch 0 0 2 0
		step 0 -> ins 0 0 10 2 | free 0 -1 0 0 | reg 0 -1 1 0 | own 1 -1 0 1 | reg 1 -1 0 0 | hold 1 -1 0 0
		step 0 -> ins 0 0 14 3 | stop 0 0 7 0 | exit 0 -1 0 0 | reg 2 -1 2 0 | hold 2 -1 0 0`)
}

func TestPlace(t *testing.T) { // P20.3: EnSeal, EnPlace
	m := stage(t, oneEach(t, busyCode), `
		seal 0 -> fail -1 -1 3 0
		place 0 9 -> fail -1 -1 3 0
		burst 0 -> fail -1 -1 3 0
		regen 0 -> fail -1 -1 3 0
		bubble -1 4 -> bubble -1 -1 0 1
		bubble 0 6 -> bubble -1 -1 1 1
		place 0 5 -> fail -1 -1 1 0
		place 0 -1 -> fail -1 -1 1 0
		place 0 4 -> fail -1 -1 6 0
		place 0 1 -> fail -1 -1 5 0
		burst 0 -> fail -1 -1 5 0
		regen 0 -> fail -1 -1 5 0
		seal 0 -> bubble -1 -1 0 2
		seal 0 -> fail -1 -1 5 0
		burst 0 -> fail -1 -1 5 0
		seal 1 -> bubble -1 -1 1 2
		place 1 3 -> fail -1 -1 5 0
		place 1 2 -> fail -1 -1 6 0
		place 1 4 -> fail -1 -1 6 0
		place 0 1 -> bubble -1 -1 0 3
		place 0 2 -> bubble -1 -1 0 3
		regen 0 -> fail -1 -1 5 0
		burst 0 -> bubble -1 -1 0 4 | bubble -1 -1 1 3
		burst 0 -> fail -1 -1 5 0
		place 0 2 -> fail -1 -1 5 0
		place 1 3 -> bubble -1 -1 1 3`)
	for b, want := range []api.Bubble{{Up: -1, Mask: cpuset.Of(0, 1), State: api.Burst, Home: 2}, {Up: 0, Mask: cpuset.Of(1, 2), State: api.Placed, Home: 3}} {
		if x, ok := m.Bubble(b); !ok || x != want {
			t.Error(b, x)
		}
	}
	for _, n := range wrongs {
		for _, kind := range []int{api.EnSeal, api.EnPlace, api.EnBurst, api.EnRegen} {
			if e := m.Do(api.Entry{Kind: kind, A: n, B: n}); e != api.ErrNone {
				t.Error(kind, n, e)
			}
		}
		if e := m.Do(api.Entry{Kind: api.EnPlace, B: n}); e != api.ErrArg {
			t.Error(n, e)
		}
	}
}

func TestBurst(t *testing.T) { // P20.3: EnBurst: those that are held, and free now, go home from their own bubble's Home
	stage(t, oneEach(t, busyCode), `
		bubble -1 -1 -> bubble -1 -1 0 1
		bubble 0 -1 -> bubble -1 -1 1 1
		bubble 0 5 -> bubble -1 -1 2 1
		bubble 0 -1 -> bubble -1 -1 3 1
		bubble -1 -1 -> bubble -1 -1 4 1
		new 0 -1 -1 -> new 0 -1 0 -1 | ready 0 -1 0 0
		new 0 -1 -1 -> new 1 -1 0 -1 | ready 1 -1 0 0
		new 0 -1 -1 -> new 2 -1 0 -1 | ready 2 -1 0 0
		new 0 2 -1 -> new 3 -1 0 -1 | ready 3 -1 0 0
		new 0 -1 -1 -> new 4 -1 0 -1 | ready 4 -1 0 0
		new 0 -1 -1 -> new 5 -1 0 -1 | ready 5 -1 0 0
		put 5 0 -> mask 5 -1 3 0 | hold 5 -1 0 0
		put 2 1 -> mask 2 -1 3 0 | hold 2 -1 1 0
		put 0 2 -> mask 0 -1 3 0 | hold 0 -1 2 0
		put 3 0 -> mask 3 -1 3 0 | hold 3 -1 0 0
		put 1 4 -> mask 1 -1 3 0 | hold 1 -1 4 0
		seal 0 -> bubble -1 -1 0 2
		seal 2 -> bubble -1 -1 2 2
		seal 1 -> bubble -1 -1 1 2
		place 0 3 -> bubble -1 -1 0 3
		offline 2 -> offline -1 2 0 0
		burst 0 -> bubble -1 -1 0 4 | bubble -1 -1 1 3 | bubble -1 -1 2 3 | park 3 -1 0 0 | ready 5 -1 3 0
		place 2 4 -> bubble -1 -1 2 3
		burst 2 -> bubble -1 -1 2 4 | ready 0 -1 4 0
		burst 1 -> bubble -1 -1 1 4 | ready 2 -1 3 0
		burst 3 -> fail -1 -1 5 0`)
}

func TestRegen(t *testing.T) { // P20.3: EnRegen: to the Up of its Home; tasks of it, and inside, that run, wait or are parked are held
	x := tree(t, wide)
	c := oneEach(t, busyCode, "sleep r0, exit r0")
	m := machine(t, x, c)
	play(t, m, x, c, `
		bubble -1 -1 -> bubble -1 -1 0 1
		bubble 0 -1 -> bubble -1 -1 1 1
		bubble 0 -1 -> bubble -1 -1 2 1
		bubble 1 -1 -> bubble -1 -1 3 1
		new 0 -1 -1 -> new 0 -1 0 -1 | ready 0 -1 0 0
		new 0 -1 -1 -> new 1 -1 0 -1 | ready 1 -1 0 0
		new 0 2 -1 -> new 2 -1 0 -1 | ready 2 -1 0 0
		new 0 -1 -1 -> new 3 -1 0 -1 | ready 3 -1 0 0
		new 0 -1 -1 -> new 4 -1 0 -1 | ready 4 -1 0 0
		new 1 -1 -1 -> new 5 -1 1 -1 | ready 5 -1 0 0
		put 0 0 -> mask 0 -1 3 0 | hold 0 -1 0 0
		put 1 1 -> mask 1 -1 3 0 | hold 1 -1 1 0
		put 2 1 -> mask 2 -1 3 0 | hold 2 -1 1 0
		put 3 2 -> mask 3 -1 3 0 | hold 3 -1 2 0
		put 5 0 -> mask 5 -1 3 0 | hold 5 -1 0 0
		seal 0 -> bubble -1 -1 0 2
		seal 1 -> bubble -1 -1 1 2
		place 0 3 -> bubble -1 -1 0 3
		burst 0 -> bubble -1 -1 0 4 | bubble -1 -1 1 3 | ready 0 -1 3 0 | ready 5 -1 3 0
		burst 1 -> bubble -1 -1 1 4 | ready 1 -1 3 0 | ready 2 -1 0 0
		offline 2 -> offline -1 2 0 0 | park 2 -1 0 0
		step 1 -> dispatch 0 1 3 0
		offline 1 -> stop 0 1 4 0 | offline -1 1 0 0 | ready 5 -1 1 0 | ready 1 -1 1 0 | ready 0 -1 0 0
		online 1 -> online -1 1 0 0
		step 1 -> dispatch 5 1 1 0
		step 1 -> ins 5 1 11 0 | stop 5 1 3 0 | wait 5 1 3 1
		step 0 -> dispatch 1 0 1 0
		regen 0 -> bubble -1 -1 0 3 | bubble -1 -1 1 2 | hold 0 -1 0 0 | stop 1 0 6 0 | hold 1 -1 1 0 | hold 2 -1 1 0
		tick -> tick -1 -1 1 0 | hold 5 -1 0 0`)
	for b, want := range []api.Bubble{{Up: -1, State: api.Placed, Home: 1}, {Up: 0, State: api.Sealed, Home: 3}, {Up: 0, State: api.Open}, {Up: 1, State: api.Open}} {
		want.Mask = cpuset.Of(0, 1, 2, 700)
		if x, ok := m.Bubble(b); !ok || x != want {
			t.Error(b, x)
		}
	}
	play(t, m, x, c, `
		burst 0 -> bubble -1 -1 0 4 | bubble -1 -1 1 3 | ready 0 -1 1 0 | ready 5 -1 1 0
		burst 1 -> bubble -1 -1 1 4 | ready 1 -1 0 0 | park 2 -1 0 0
		regen 1 -> bubble -1 -1 1 3 | hold 1 -1 1 0 | hold 2 -1 1 0
		regen 0 -> bubble -1 -1 0 3 | bubble -1 -1 1 2 | hold 0 -1 0 0 | hold 5 -1 0 0
		burst 0 -> bubble -1 -1 0 4 | bubble -1 -1 1 3 | ready 0 -1 0 0 | ready 5 -1 0 0
		regen 0 -> bubble -1 -1 0 3 | bubble -1 -1 1 2 | hold 0 -1 0 0 | hold 5 -1 0 0`)
	if x, _ := m.Bubble(0); x.Home != 0 {
		t.Error(x)
	}
	if q := m.Queue(0); len(q) != 1 || q[0].Task != 4 {
		t.Error(q)
	}
}

func TestBalance(t *testing.T) { // P20.3: EnBalance
	x := tree(t, "domain m { domain a cpus 0-1; domain b queue 2 cpus 2-3; }")
	c := config(t, "yield, jump 0")
	c.Masks = []api.Set{cpuset.Of(0), cpuset.Of(0, 1, 2, 3), cpuset.Of(1, 3)}
	m := machine(t, x, c)
	play(t, m, x, c, `
		balance 3 -> fail -1 -1 1 0
		balance -1 -> fail -1 -1 1 0
		balance 0 ->
		offline 0 -> offline -1 0 0 0
		new 0 0 0 -> new 0 -1 0 -1 | park 0 -1 0 0
		new 0 0 0 -> new 1 -1 0 -1 | park 1 -1 0 0
		new 0 0 1 -> new 2 -1 0 -1 | park 2 -1 0 0
		new 0 0 1 -> new 3 -1 0 -1 | park 3 -1 0 0
		new 0 0 0 -> new 4 -1 0 -1 | park 4 -1 0 0
		new 0 0 0 -> new 5 -1 0 -1 | park 5 -1 0 0
		new 0 0 3 -> new 6 -1 0 -1 | park 6 -1 0 0
		online 0 -> online -1 0 0 0 | ready 0 -1 1 0 | ready 1 -1 1 0 | ready 2 -1 1 0 | ready 3 -1 1 0 | ready 4 -1 1 0 | ready 5 -1 1 0 | ready 6 -1 1 0
		mask 0 1 -> mask 0 -1 1 0
		mask 1 1 -> mask 1 -1 1 0
		mask 2 1 -> mask 2 -1 1 0
		mask 4 2 -> mask 4 -1 1 0
		balance 0 ->
		tick -> tick -1 -1 1 0
		offline 3 -> offline -1 3 0 0
		balance 0 -> move 2 -1 1 2 | move 0 -1 1 2
		balance 1 ->
		balance 0 ->
		step 2 -> dispatch 2 2 2 0
		balance 0 -> move 1 -1 1 2`)
	stamps := map[int]int{}
	for d := range 3 {
		for _, r := range m.Queue(d) {
			stamps[r.Task] = r.Stamp
			if r.Moved != (d == 2) {
				t.Error(d, r)
			}
		}
	}
	if len(stamps) != 6 || stamps[0] >= stamps[1] || stamps[1] >= stamps[3] { // 1 keeps its stamp
		t.Error(stamps)
	}
	for _, n := range wrongs {
		if e := m.Do(api.Entry{Kind: api.EnBalance, A: n}); e != api.ErrArg {
			t.Error(n, e)
		}
	}
	if q := m.Queue(2); !slices.ContainsFunc(q, func(r api.Ready) bool { return r.Task == 0 }) {
		t.Error(q)
	}
}
