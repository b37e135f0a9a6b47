package codec_test

import (
	"bytes"
	"math"
	"math/rand"
	"slices"
	"testing"

	"pinfold/api"
	"pinfold/codec"
)

// eventRow and entryRow are the bytes of rows, by a second reading of the chapter.
func eventRow(l []api.Event) []byte {
	var b []byte
	for _, e := range l {
		b = append(b, row(e.Kind, e.Task, e.Cpu, e.A, e.B)...)
	}
	return b
}

func entryRow(l []api.Entry) []byte {
	var b []byte
	for _, e := range l {
		b = append(b, row(e.Kind, e.A, e.B, e.C)...)
		if e.Draw <= math.MaxInt {
			b = append(b, written(int(e.Draw))...)
		} else {
			b = append(b, written(-int(math.MaxUint-e.Draw)-1)...) // 2^64 - 1 as -1
		}
	}
	return b
}

// fives is the numbers that b is, five by five, and -1; or none, and where the first five begin that aren't there.
func fives(b []byte) ([][5]int, int) {
	var l [][5]int
	for at := 0; at < len(b); {
		var five [5]int
		next := at
		for i := range five {
			n, end, ok := number(b, next)
			if !ok {
				return nil, at
			}
			five[i], next = n, end
		}
		l, at = append(l, five), next
	}
	return l, -1
}

// checkRows holds the rows that b is against the second reading, and what is read against what is written.
func checkRows(t *testing.T, b []byte) {
	t.Helper()
	want, bad := fives(b)
	events, bad1 := codec.ParseEvents(b)
	entries, bad2 := codec.ParseEntries(b)
	if bad1 != bad || bad2 != bad || len(events) != len(want) || len(entries) != len(want) {
		t.Fatalf("% x: %v, %d, %v, %d, not %v, %d", b, events, bad1, entries, bad2, want, bad)
	}
	for i, n := range want {
		if events[i] != (api.Event{Kind: n[0], Task: n[1], Cpu: n[2], A: n[3], B: n[4]}) {
			t.Fatalf("% x: %v", b, events)
		}
		if entries[i] != (api.Entry{Kind: n[0], A: n[1], B: n[2], C: n[3], Draw: uint(n[4])}) {
			t.Fatalf("% x: %v", b, entries)
		}
	}
	if bad == -1 && (!bytes.Equal(codec.Events(events), b) || !bytes.Equal(codec.Entries(entries), b)) {
		t.Fatalf("% x isn't written so", b)
	}
}

func TestEvents(t *testing.T) { // P31.3
	l := []api.Event{{Kind: 2, Task: 3, Cpu: -1, A: 300, B: 0}, {Kind: 21, Task: 0, Cpu: 64, A: math.MinInt, B: 1}}
	want := []byte{4, 6, 1, 0xd8, 4, 0, 42, 0, 0x80, 1, 255, 255, 255, 255, 255, 255, 255, 255, 255, 1, 2}
	b := codec.Events(l)
	if !bytes.Equal(b, want) {
		t.Errorf("% x", b)
	}
	if m, bad := codec.ParseEvents(b); !slices.Equal(m, l) || bad != -1 {
		t.Error(m, bad)
	}
	for _, x := range []struct {
		b   []byte
		bad int
	}{{b[:1], 0}, {b[:5], 0}, {b[:6], -1}, {b[:7], 6}, {b[:len(b)-1], 6}, {append(slices.Clip(b), 0), 21}, {append(slices.Clip(b), 0, 0, 0, 0), 21}, {[]byte{0x80, 0, 0, 0, 0}, 0}, {append(slices.Clip(b[:6]), 0, 0, 0, 0, 0x80, 0), 6}} {
		if m, bad := codec.ParseEvents(x.b); bad != x.bad || bad >= 0 && len(m) != 0 {
			t.Errorf("% x: %v, %d", x.b, m, bad)
		}
		checkRows(t, x.b)
	}
}

func TestEntries(t *testing.T) { // P31.3
	l := []api.Entry{{Kind: 1, A: 2, B: -3, C: 64, Draw: 5}, {Kind: 15, Draw: math.MaxUint}, {Kind: -7, Draw: math.MaxInt}, {Kind: 1 << 40, Draw: math.MaxInt + 1}}
	b := codec.Entries(l)
	if want := []byte{2, 4, 5, 0x80, 1, 10, 30, 0, 0, 0, 1, 13, 0, 0, 0}; !bytes.HasPrefix(b, want) {
		t.Errorf("% x", b)
	}
	if !bytes.Equal(b, entryRow(l)) {
		t.Errorf("% x", b)
	}
	if m, bad := codec.ParseEntries(b); !slices.Equal(m, l) || bad != -1 {
		t.Error(m, bad)
	}
	for end := range b {
		begins := []int{0, 6, 11, 25} // of the entries
		i, whole := slices.BinarySearch(begins, end)
		m, bad := codec.ParseEntries(b[:end])
		if whole && (bad != -1 || len(m) != i) || !whole && (bad != begins[i-1] || len(m) > 0) {
			t.Error(end, m, bad)
		}
		checkRows(t, b[:end])
	}
}

// anyNumber is one of any length.
func anyNumber(r *rand.Rand) int {
	if r.Intn(2) == 0 {
		return r.Intn(9) - 2
	}
	return numbers[r.Intn(len(numbers))]
}

func TestRandomRows(t *testing.T) { // P31.3, P31.4
	r := rand.New(rand.NewSource(5))
	for range 3000 {
		var events []api.Event
		var entries []api.Entry
		for range r.Intn(6) {
			events = append(events, api.Event{Kind: anyNumber(r), Task: anyNumber(r), Cpu: anyNumber(r), A: anyNumber(r), B: anyNumber(r)})
			entries = append(entries, api.Entry{Kind: anyNumber(r), A: anyNumber(r), B: anyNumber(r), C: anyNumber(r), Draw: uint(anyNumber(r))})
		}
		b, c := codec.Events(events), codec.Entries(entries)
		if !bytes.Equal(b, eventRow(events)) || !bytes.Equal(c, entryRow(entries)) {
			t.Fatal(events, entries)
		}
		l, bad := codec.ParseEvents(b)
		m, bad2 := codec.ParseEntries(c)
		if !slices.Equal(l, events) || bad != -1 || !slices.Equal(m, entries) || bad2 != -1 {
			t.Fatal(events, entries)
		}
		if len(b) == 0 {
			continue
		}
		for range 9 {
			x := slices.Clone(b)
			switch i := r.Intn(len(x)); r.Intn(3) {
			case 0:
				x[i] = byte(r.Intn(256))
			case 1:
				x = slices.Delete(x, i, i+1)
			case 2:
				x = slices.Insert(x, i, []byte{0, 0x80, byte(r.Intn(256))}[r.Intn(3)])
			}
			checkRows(t, x)
		}
	}
}

func TestAllShortRows(t *testing.T) { // P31.3, P31.4
	allBytes([]byte{0, 1, 0x80, 0xff}, 8, func(b []byte) { checkRows(t, b) })
}

func TestLongRow(t *testing.T) { // P31.3
	l := slices.Repeat([]api.Event{{Kind: 3, Task: 1, Cpu: 2, A: 9, B: 70}}, 200000)
	if m, bad := codec.ParseEvents(codec.Events(l)); !slices.Equal(m, l) || bad != -1 {
		t.Error(len(m), bad)
	}
}

func TestRowsStayAsTheyAre(t *testing.T) { // rule 4
	events, entries := []api.Event{{Kind: 1}, {Kind: 2}}, []api.Entry{{Kind: 1}, {Kind: 2, Draw: 8}}
	codec.Events(events[:1])
	codec.Entries(entries[:1])
	if events[0].Kind != 1 || events[1].Kind != 2 || entries[0].Kind != 1 || entries[1].Draw != 8 {
		t.Error(events, entries)
	}
	b := codec.Entries(entries)
	clear(codec.Entries(entries))
	l, _ := codec.ParseEntries(b)
	clear(l)
	if m, bad := codec.ParseEntries(b); !slices.Equal(m, entries) || bad != -1 {
		t.Error(m, bad)
	}
}

func FuzzParse(f *testing.F) { // P31.3, P31.4
	f.Add([]byte{4, 6, 1, 0xd8, 4, 0})
	f.Fuzz(func(t *testing.T, b []byte) { checkRows(t, b) })
}
