package codec_test

import (
	"bytes"
	"math"
	"math/big"
	"math/rand"
	"slices"
	"testing"

	"pinfold/api"
	"pinfold/codec"
	"pinfold/cpuset"
)

// numbers are numbers with the edges of all lengths among them.
var numbers = func() []int {
	l := []int{0, 1, -1, math.MaxInt, math.MaxInt - 1, math.MinInt, math.MinInt + 1}
	for bit := range 63 {
		for d := -2; d <= 1; d++ {
			l = append(l, 1<<bit+d, -(1<<bit)+d)
		}
	}
	return l
}()

// written is the bytes of n, by a second reading of the chapter.
func written(n int) []byte {
	x := big.NewInt(int64(n))
	x.Add(x, x)
	if n < 0 {
		x.Neg(x)
		x.Sub(x, big.NewInt(1))
	}
	var b []byte
	for {
		var low big.Int
		x.DivMod(x, big.NewInt(128), &low)
		if x.Sign() == 0 {
			return append(b, byte(low.Int64()))
		}
		b = append(b, byte(low.Int64())+128)
	}
}

// number is what stands in b from the place at on, by a second reading of the chapter.
func number(b []byte, at int) (n, next int, ok bool) {
	if at < 0 || at > len(b) {
		return 0, 0, false
	}
	length := slices.IndexFunc(b[at:], func(x byte) bool { return x < 128 }) + 1
	if length == 0 || length > 10 {
		return 0, 0, false
	}
	row := b[at : at+length]
	if length == 10 && row[9] > 1 || length > 1 && row[length-1] == 0 {
		return 0, 0, false
	}
	sum := new(big.Int)
	for i, x := range row {
		sum.Add(sum, new(big.Int).Lsh(big.NewInt(int64(x%128)), uint(7*i)))
	}
	half, odd := new(big.Int).DivMod(sum, big.NewInt(2), new(big.Int))
	if odd.Sign() != 0 {
		half.Neg(half.Add(half, big.NewInt(1)))
	}
	return int(half.Int64()), at + length, true
}

// checkInt holds GetInt against the second reading, and what it reads against what is written.
func checkInt(t *testing.T, b []byte, at int) {
	t.Helper()
	n, next, ok := codec.GetInt(b, at)
	n2, next2, ok2 := number(b, at)
	if n != n2 || next != next2 || ok != ok2 {
		t.Fatalf("GetInt(% x, %d): %d, %d, %t, not %d, %d, %t", b, at, n, next, ok, n2, next2, ok2)
	}
	if ok && !bytes.Equal(codec.PutInt(b[:at], n), b[:next]) {
		t.Fatalf("GetInt(% x, %d): %d isn't written so", b, at, n)
	}
}

func TestExamples(t *testing.T) { // P31.1, P31.2
	for n, want := range map[int][]byte{0: {0}, -1: {1}, 64: {0x80, 1}} {
		if b := codec.PutInt(nil, n); !bytes.Equal(b, want) {
			t.Errorf("%d: % x", n, b)
		}
		if m, next, ok := codec.GetInt(want, 0); m != n || next != len(want) || !ok {
			t.Error(n, m, next, ok)
		}
	}
	s, want := cpuset.Of(0, 1, 2, 3, 8), []byte{4, 0, 6, 6, 0}
	if b := codec.PutSet(nil, s); !bytes.Equal(b, want) {
		t.Errorf("% x", b)
	}
	if x, next, ok := codec.GetSet(want, 0); x != s || next != 5 || !ok {
		t.Error(x, next, ok)
	}
}

func TestNumbers(t *testing.T) { // P31.1, P31.4
	for n, want := range map[int][]byte{
		1: {2}, 63: {126}, -64: {127}, -65: {0x81, 1}, 8191: {0xfe, 0x7f}, 8192: {0x80, 0x80, 1}, 300: {0xd8, 4},
		math.MaxInt: {0xfe, 255, 255, 255, 255, 255, 255, 255, 255, 1}, math.MinInt: {255, 255, 255, 255, 255, 255, 255, 255, 255, 1},
	} {
		if b := codec.PutInt(nil, n); !bytes.Equal(b, want) {
			t.Errorf("%d: % x", n, b)
		}
	}
	seen := map[string]int{}
	for _, n := range numbers {
		b := codec.PutInt([]byte{9, 0x80}, n)
		if !bytes.Equal(b, append([]byte{9, 0x80}, written(n)...)) {
			t.Fatalf("%d: % x", n, b)
		}
		if m, is := seen[string(b)]; is && m != n {
			t.Fatalf("%d and %d: % x", n, m, b)
		}
		seen[string(b)] = n
		b = append(b, 0xff)
		if m, next, ok := codec.GetInt(b, 2); m != n || next != len(b)-1 || !ok {
			t.Fatalf("% x: %d, %d, %t", b, m, next, ok)
		}
		for at := -1; at <= len(b)+1; at++ {
			checkInt(t, b, at)
		}
		for end := range b { // cut off
			checkInt(t, b[:end], 2)
		}
	}
	for n := -70000; n <= 70000; n++ {
		if b := codec.PutInt(nil, n); !bytes.Equal(b, written(n)) {
			t.Fatalf("%d: % x", n, b)
		}
	}
}

func TestWrongNumbers(t *testing.T) { // P31.1, by hand
	long := func(n int, last ...byte) []byte { return append(bytes.Repeat([]byte{0x80}, n), last...) }
	for _, b := range [][]byte{nil, {}, {0x80}, {0xff, 0xff}, {0x80, 0}, {0xff, 0x80, 0}, long(9, 0), long(9, 2), long(9, 3), long(9, 0x7f), long(9, 0x80), long(9, 0x81), long(10, 1), long(9, 0x81, 1), long(8, 0), long(11), long(100, 1)} {
		if n, next, ok := codec.GetInt(b, 0); n != 0 || next != 0 || ok {
			t.Errorf("GetInt(% x): %d, %d, %t", b, n, next, ok)
		}
		checkInt(t, b, 0)
	}
	for _, b := range [][]byte{{0}, long(9, 1), long(8, 0x7f), long(1, 1)} {
		if _, next, ok := codec.GetInt(b, 0); next != len(b) || !ok {
			t.Errorf("GetInt(% x): %d, %t", b, next, ok)
		}
		checkInt(t, b, 0)
	}
	b := []byte{2, 4, 6}
	for _, at := range []int{-1, math.MinInt, 3, 4, math.MaxInt, -3} {
		if n, next, ok := codec.GetInt(b, at); n != 0 || next != 0 || ok {
			t.Error(at, n, next, ok)
		}
		checkInt(t, b, at)
		if s, next, ok := codec.GetSet(b, at); s != (api.Set{}) || next != 0 || ok {
			t.Error(at, s, next, ok)
		}
	}
}

// allBytes lets all rows of the bytes, up to the length, be seen.
func allBytes(of []byte, length int, see func(b []byte)) {
	var next func(b []byte)
	next = func(b []byte) {
		see(b)
		if len(b) == length {
			return
		}
		for _, x := range of {
			next(append(slices.Clip(b), x))
		}
	}
	next(nil)
}

func TestAllShortNumbers(t *testing.T) { // P31.1, P31.4
	var all []byte
	for x := range 256 {
		all = append(all, byte(x))
	}
	allBytes(all, 2, func(b []byte) {
		checkInt(t, b, 0)
		checkInt(t, b, 1)
	})
	allBytes([]byte{0, 1, 2, 0x7f, 0x80, 0x81, 0xff}, 5, func(b []byte) { checkInt(t, b, 0) })
	allBytes([]byte{0, 1, 2, 0x80, 0x81, 0xff}, 4, func(b []byte) {
		checkInt(t, append(bytes.Repeat([]byte{0x80}, 8), b...), 0)
		checkInt(t, append(bytes.Repeat([]byte{0xff}, 7), b...), 0)
	})
}

// setBytes is the bytes of the set of the workers whose numbers rise in l, by a second reading of the chapter.
func setBytes(l []int) []byte {
	var rows [][2]int
	for _, n := range l {
		if last := len(rows) - 1; last >= 0 && rows[last][1] == n-1 {
			rows[last][1] = n
		} else {
			rows = append(rows, [2]int{n, n})
		}
	}
	b := written(len(rows))
	for i, row := range rows {
		left := row[0]
		if i > 0 {
			left = row[0] - rows[i-1][1] - 1 - 1
		}
		b = append(append(b, written(left)...), written(row[1]-row[0]+1-1)...)
	}
	return b
}

// set is the set that stands in b from the place at on, by a second reading of the chapter: numbers are put in one by one.
func set(b []byte, at int) (api.Set, int, bool) {
	rows, next, ok := number(b, at)
	if !ok || rows < 0 {
		return api.Set{}, 0, false
	}
	var l []int
	n := 0
	for i := range rows {
		left, behind, ok := number(b, next)
		if !ok || left < 0 || left > 1023 {
			return api.Set{}, 0, false
		}
		more, end, ok := number(b, behind)
		if !ok || more < 0 || more > 1023 {
			return api.Set{}, 0, false
		}
		if i > 0 {
			n++
		}
		n += left
		for range more + 1 {
			l = append(l, n)
			n++
		}
		if n > 1024 {
			return api.Set{}, 0, false
		}
		next = end
	}
	return cpuset.Of(l...), next, true
}

// checkSet holds GetSet against the second reading, and what it reads against what is written.
func checkSet(t *testing.T, b []byte, at int) {
	t.Helper()
	s, next, ok := codec.GetSet(b, at)
	s2, next2, ok2 := set(b, at)
	if s != s2 || next != next2 || ok != ok2 {
		t.Fatalf("GetSet(% x, %d): %s, %d, %t, not %s, %d, %t", b, at, cpuset.Print(s), next, ok, cpuset.Print(s2), next2, ok2)
	}
	if ok && !bytes.Equal(codec.PutSet(b[:at], s), b[:next]) {
		t.Fatalf("GetSet(% x, %d): %s isn't written so", b, at, cpuset.Print(s))
	}
}

// checkPut writes the set of the workers whose numbers rise in l.
func checkPut(t *testing.T, l []int) {
	t.Helper()
	s, want := cpuset.Of(l...), append([]byte{7}, setBytes(l)...)
	b := codec.PutSet([]byte{7}, s)
	if !bytes.Equal(b, want) {
		t.Fatalf("PutSet of %v: % x, not % x", l, b, want)
	}
	b = append(b, 0x80, 0)
	if x, next, ok := codec.GetSet(b, 1); x != s || next != len(want) || !ok {
		t.Fatalf("GetSet(% x): %v, %d, %t", b, cpuset.List(x), next, ok)
	}
	for end := range len(b) {
		checkSet(t, b[:end], 1)
	}
}

// bitsOf is the places of the bits of n, and base more.
func bitsOf(n, base int) []int {
	var l []int
	for i := range 16 {
		if n>>i&1 == 1 {
			l = append(l, base+i)
		}
	}
	return l
}

func TestSets(t *testing.T) { // P31.2, P31.4
	for n := range 1 << 10 {
		checkPut(t, bitsOf(n, 0))
		checkPut(t, bitsOf(n, 1024-10))
		checkPut(t, bitsOf(n, 59))
		if n%8 == 0 {
			checkPut(t, append(bitsOf(n, 0), bitsOf(n/8, 1024-7)...))
		}
	}
	r := rand.New(rand.NewSource(3))
	for range 100 {
		var s api.Set
		for range 1 + r.Intn(12) {
			from := r.Intn(1024)
			s = cpuset.Or(s, cpuset.Range(from, from+r.Intn(1+r.Intn(300))))
		}
		checkPut(t, cpuset.List(s))
	}
	for _, s := range []api.Set{{}, cpuset.Range(0, 1023), cpuset.Of(0), cpuset.Of(1023), cpuset.Of(0, 1023), cpuset.Range(1, 1022)} {
		checkPut(t, cpuset.List(s))
	}
	var every []int
	for n := 0; n < 1024; n += 2 {
		every = append(every, n)
	}
	checkPut(t, every)
	for i := range every {
		every[i]++
	}
	checkPut(t, every)
}

// row is the numbers as bytes.
func row(l ...int) []byte {
	var b []byte
	for _, n := range l {
		b = append(b, written(n)...)
	}
	return b
}

func TestWrongSets(t *testing.T) { // P31.2, by hand
	for _, b := range [][]byte{
		nil, row(-1), row(-1, 0, 0), row(1), row(1, 0), row(2, 0, 0), row(2, 0, 0, 0), row(1, -1, 1), row(1, 1, -1), row(1, 5, -2), row(math.MinInt), row(math.MaxInt), row(math.MaxInt, 0, 0),
		row(1, 1024, 0), row(1, 0, 1024), row(1, 1000, 24), row(2, 0, 0, 1022, 0), row(2, 0, 0, 0, 1022), row(2, 0, 1023, 0, 0), row(2, 0, 1022, 0, 0), row(2, 1023, 0, 0, 0), row(3, 0, 0, 1021, 0, 0, 0),
		row(1, math.MaxInt, 0), row(1, 0, math.MaxInt), row(1, math.MaxInt, math.MaxInt), row(1, math.MinInt, math.MinInt), row(2, 0, 0, math.MaxInt, math.MaxInt), row(2, 0, 1, math.MaxInt-1, 0), row(1, 2, math.MaxInt), row(1, math.MaxInt, 2),
		row(2, 5, 0, -1, 0), row(2, 5, 0, -3, 0), {0x80, 0}, {2, 0x80, 0, 0}, {2, 0, 0x80, 0}, append(row(600), bytes.Repeat([]byte{0}, 1200)...),
	} {
		if s, next, ok := codec.GetSet(b, 0); s != (api.Set{}) || next != 0 || ok {
			t.Errorf("GetSet(% x): %v, %d, %t", b, cpuset.List(s), next, ok)
		}
		checkSet(t, b, 0)
	}
	for want, b := range map[string][]byte{"": row(0), "1023": row(1, 1023, 0), "0-1023": row(1, 0, 1023), "1000-1023": row(1, 1000, 23), "0,1023": row(2, 0, 0, 1021, 0), "0,2-1023": row(2, 0, 0, 0, 1021), "0-1021,1023": row(2, 0, 1021, 0, 0)} {
		if s, next, ok := codec.GetSet(b, 0); cpuset.Print(s) != want || next != len(b) || !ok {
			t.Errorf("GetSet(% x): %s, %d, %t", b, cpuset.Print(s), next, ok)
		}
		checkSet(t, b, 0)
	}
}

func TestAllShortSets(t *testing.T) { // P31.2, P31.4
	allBytes([]byte{0, 1, 2, 4, 6, 0x80, 0xfe, 15}, 6, func(b []byte) { checkSet(t, b, 0) })
	r := rand.New(rand.NewSource(4))
	for range 20000 {
		l := []int{1 + r.Intn(4)}
		for range 2 * l[0] {
			l = append(l, []int{0, 1, 2, r.Intn(300), r.Intn(1100), -r.Intn(3)}[r.Intn(6)])
		}
		b := row(l...)
		checkSet(t, b, 0)
		b[r.Intn(len(b))] = byte(r.Intn(256))
		checkSet(t, b, 0)
	}
}

func TestNothingIsWrittenInto(t *testing.T) { // rule 4: neither what is handed in nor its spare room
	for _, length := range []int{0, 1, 5} {
		b := make([]byte, 64)
		for i := range b {
			b[i] = byte(200 + i)
		}
		was := slices.Clone(b)
		part := b[:length]
		for range 2 {
			for _, got := range [][]byte{codec.PutInt(part, math.MinInt), codec.PutInt(part, 0), codec.PutSet(part, cpuset.Of(0, 5, 900)), codec.PutSet(part, api.Set{})} {
				if !bytes.Equal(b, was) {
					t.Fatalf("% x", b)
				}
				if !bytes.Equal(got[:length], was[:length]) {
					t.Fatalf("% x", got)
				}
				clear(got[:cap(got)])
				if !bytes.Equal(b, was) {
					t.Fatal("an answer shares memory with what was handed in")
				}
			}
		}
	}
	b := append(row(0, 1, 2, 3, 4), row(1, 2)...)
	was := slices.Clone(b)
	codec.ParseEvents(b[:5])
	codec.ParseEntries(b[:7])
	codec.GetSet(b, 0)
	if !bytes.Equal(b, was) {
		t.Errorf("% x", b)
	}
}

func TestNilAndEmpty(t *testing.T) { // rule 3
	for _, b := range [][]byte{nil, {}} {
		if got := codec.PutInt(b, 3); !bytes.Equal(got, []byte{6}) {
			t.Error(got)
		}
		if l, bad := codec.ParseEvents(b); len(l) != 0 || bad != -1 {
			t.Error(l, bad)
		}
		if l, bad := codec.ParseEntries(b); len(l) != 0 || bad != -1 {
			t.Error(l, bad)
		}
	}
	if b := codec.Events(nil); len(b) != 0 {
		t.Error(b)
	}
	if b := codec.Entries([]api.Entry{}); len(b) != 0 {
		t.Error(b)
	}
}

func FuzzGetSet(f *testing.F) { // P31.1, P31.2, P31.4
	f.Add([]byte{4, 0, 6, 6, 0}, 0)
	f.Fuzz(func(t *testing.T, b []byte, at int) {
		checkInt(t, b, at)
		checkSet(t, b, at)
	})
}
