package cpuset_test

import (
	"regexp"
	"strconv"
	"strings"
	"testing"

	"pinfold/api"
	"pinfold/cpuset"
)

func TestPrint(t *testing.T) { // P1.4
	for _, x := range []struct {
		set  api.Set
		want string
	}{
		{api.Set{}, ""},
		{cpuset.Of(0), "0"},
		{cpuset.Of(1023), "1023"},
		{cpuset.Of(0, 1), "0-1"},
		{cpuset.Of(0, 2), "0,2"},
		{cpuset.Of(8, 3, 2, 1, 0), "0-3,8"},
		{cpuset.Range(63, 64), "63-64"},
		{cpuset.Range(0, 1023), "0-1023"},
		{cpuset.Drop(cpuset.Range(0, 1023), 64), "0-63,65-1023"},
		{cpuset.Of(62, 63, 65, 127, 128, 1021, 1022, 1023), "62-63,65,127-128,1021-1023"},
	} {
		if got := cpuset.Print(x.set); got != x.want {
			t.Errorf("%q, not %q", got, x.want)
		}
	}
}

func TestParse(t *testing.T) { // P1.4
	for _, x := range []struct {
		text string
		want api.Set
	}{
		{"", api.Set{}},
		{"0", cpuset.Of(0)},
		{"1023", cpuset.Of(1023)},
		{"0-3,8", cpuset.Of(0, 1, 2, 3, 8)},
		{"8,0-3", cpuset.Of(0, 1, 2, 3, 8)},
		{"0-0", cpuset.Of(0)},
		{"3-3", cpuset.Of(3)},
		{"5,4,6,3", cpuset.Range(3, 6)},
		{"0-1023", cpuset.Range(0, 1023)},
		{"9-10,11-100,101", cpuset.Range(9, 101)},
	} {
		if s, e, at := cpuset.Parse(x.text); s != x.want || e != api.OK || at != 0 {
			t.Errorf("%q: %v, %d, %d", x.text, cpuset.List(s), e, at)
		}
	}
}

func TestParseRefuses(t *testing.T) { // P1.4
	for _, x := range []struct {
		text string
		e    api.Errno
		at   int
	}{
		{"x", api.ErrByte, 0}, {" 1", api.ErrByte, 0}, {",", api.ErrByte, 0}, {"-1", api.ErrByte, 0}, {"+1", api.ErrByte, 0},
		{"1,,2", api.ErrByte, 2}, {"1,-2", api.ErrByte, 2}, {"1--2", api.ErrByte, 2}, {"1-,2", api.ErrByte, 2}, {"1-x", api.ErrByte, 2},
		{"1x", api.ErrByte, 1}, {"1 ", api.ErrByte, 1}, {"1\x00", api.ErrByte, 1}, {"1é", api.ErrByte, 1}, {"1\xff", api.ErrByte, 1}, {"1/", api.ErrByte, 1}, {"1:", api.ErrByte, 1}, {"1\n", api.ErrByte, 1},
		{"1-2-3", api.ErrByte, 3}, {"1-2x", api.ErrByte, 3}, {"1,2 ,3", api.ErrByte, 3},
		{"1,", api.ErrEnd, 2}, {"1-", api.ErrEnd, 2}, {"0-3,", api.ErrEnd, 4}, {"0-3,5-", api.ErrEnd, 6},
		{"1024", api.ErrSize, 0}, {"1,1024", api.ErrSize, 2}, {"1-1024", api.ErrSize, 2}, {"99999999999999999999999", api.ErrSize, 0}, {"18446744073709551617", api.ErrSize, 0},
		{"00", api.ErrSize, 0}, {"01", api.ErrSize, 0}, {"1,01", api.ErrSize, 2}, {"0-00", api.ErrSize, 2}, {"1-02", api.ErrSize, 2},
		{"3-1", api.ErrSize, 2}, {"10-9", api.ErrSize, 3}, {"1-0", api.ErrSize, 2},
		{"1,1", api.ErrTwice, 2}, {"1,0-1", api.ErrTwice, 2}, {"0-3,8,3", api.ErrTwice, 6}, {"5-9,0-6", api.ErrTwice, 4}, {"0-1023,1023-1023", api.ErrTwice, 7}, {"1,2,1-2", api.ErrTwice, 4},
		// the first one in the text's order
		{"1024x", api.ErrSize, 0}, {"1024-", api.ErrSize, 0}, {"00x", api.ErrSize, 0}, {"0x", api.ErrByte, 1}, {"3-1x", api.ErrSize, 2}, {"2000-1000", api.ErrSize, 0}, {"1,1,x", api.ErrTwice, 2}, {"1,1,", api.ErrTwice, 2}, {"1,2000,1", api.ErrSize, 2},
		// of an item that is wrong in itself first that
		{"1,1x", api.ErrByte, 3}, {"1,1-0", api.ErrSize, 4}, {"1,1-", api.ErrEnd, 4}, {"1,1-x", api.ErrByte, 4}, {"1,1-2-3", api.ErrByte, 5}, {"1,1-2000", api.ErrSize, 4},
	} {
		if s, e, at := cpuset.Parse(x.text); s != (api.Set{}) || e != x.e || at != x.at {
			t.Errorf("%q: %v, %d, %d, not %d, %d", x.text, cpuset.List(s), e, at, x.e, x.at)
		}
	}
}

// texts are all texts of at most so many of the pieces, one behind the other.
func texts(pieces []string, most int) []string {
	all := []string{""}
	last := all
	for range most {
		var more []string
		for _, t := range last {
			for _, p := range pieces {
				more = append(more, t+p)
			}
		}
		all, last = append(all, more...), more
	}
	return all
}

var (
	numberForm = regexp.MustCompile(`^(0|[1-9][0-9]*)$`)
	digitsForm = regexp.MustCompile(`^[0-9]*`)
)

// numberFault tells what is wrong with digits as a number that is least or more.
func numberFault(digits string, least int) (int, bool) {
	n, err := strconv.Atoi(digits)
	return n, err != nil || !numberForm.MatchString(digits) || n >= api.MaxCpu || n < least
}

// itemFault is the fault of an item that is wrong in itself, and its place there; or its first and last worker.
func itemFault(item string, ends bool) (from, to int, e api.Errno, at int) {
	least, first := 0, 0
	for number := range 2 {
		digits := digitsForm.FindString(item[at:])
		behind := at + len(digits)
		n, wrong := numberFault(digits, least)
		switch {
		case digits == "" && behind == len(item) && ends:
			return 0, 0, api.ErrEnd, at
		case digits == "":
			return 0, 0, api.ErrByte, at
		case wrong:
			return 0, 0, api.ErrSize, at
		case number == 0:
			first = n
		}
		if behind == len(item) {
			return first, n, api.OK, 0
		}
		if number == 1 || item[behind] != '-' {
			return 0, 0, api.ErrByte, behind
		}
		least, at = n, behind+1
	}
	return 0, 0, api.OK, 0
}

// parsed is what the document says of a text, told by cutting it at its commas first.
func parsed(text string) (map[int]bool, api.Errno, int) {
	in := map[int]bool{}
	if text == "" {
		return in, api.OK, 0
	}
	at := 0
	items := strings.Split(text, ",")
	for i, item := range items {
		from, to, e, off := itemFault(item, i == len(items)-1)
		if e != api.OK {
			return map[int]bool{}, e, at + off
		}
		for n := from; n <= to; n++ {
			if in[n] {
				return map[int]bool{}, api.ErrTwice, at
			}
		}
		for n := from; n <= to; n++ {
			in[n] = true
		}
		at += len(item) + 1
	}
	return in, api.OK, 0
}

func TestParseAllShortTexts(t *testing.T) { // P1.4, P1.5
	all := append(texts([]string{"0", "1", "2", "-", ",", "x"}, 6), texts([]string{"1023", "1024", "63", "64", "0", "-", ",", " "}, 5)...)
	for _, text := range all {
		in, wantE, wantAt := parsed(text)
		s, e, at := cpuset.Parse(text)
		if e != wantE || at != wantAt || cpuset.Len(s) != len(in) {
			t.Fatalf("%q: %v, %d, %d, not %d, %d", text, cpuset.List(s), e, at, wantE, wantAt)
		}
		for n := range in {
			if !cpuset.Has(s, n) {
				t.Fatalf("%q: %v", text, cpuset.List(s))
			}
		}
		if again, e, _ := cpuset.Parse(cpuset.Print(s)); again != s || e != api.OK {
			t.Fatalf("%q, printed and parsed: %v", text, cpuset.List(again))
		}
	}
}

func TestPrintedIsParsed(t *testing.T) { // P1.5
	seen := map[string]api.Set{}
	for _, m := range some() {
		s := m.set()
		text := cpuset.Print(s)
		if back, e, at := cpuset.Parse(text); back != s || e != api.OK || at != 0 {
			t.Errorf("%q: %v, %d, %d", text, cpuset.List(back), e, at)
		}
		if other, ok := seen[text]; ok && other != s {
			t.Errorf("%q is printed of two sets", text)
		}
		seen[text] = s
	}
	for _, other := range []string{"0,1,2,3,8", "8,0-3", "0-1,2-3,8", "0-3,8-8"} { // one printing, however the text was
		if s, _, _ := cpuset.Parse(other); cpuset.Print(s) != "0-3,8" {
			t.Errorf("%q: %q", other, cpuset.Print(s))
		}
	}
}

func TestPrintIsRowsOfNeighbours(t *testing.T) { // P1.4
	for _, m := range some() {
		var items []string
		l := m.list()
		for i := 0; i < len(l); {
			end := i
			for end+1 < len(l) && l[end+1] == l[end]+1 {
				end++
			}
			item := strconv.Itoa(l[i])
			if end > i {
				item += "-" + strconv.Itoa(l[end])
			}
			items = append(items, item)
			i = end + 1
		}
		if got := cpuset.Print(m.set()); got != strings.Join(items, ",") {
			t.Errorf("%q, not %v", got, items)
		}
	}
}

func FuzzParse(f *testing.F) { // P1.4, P1.5
	for _, text := range []string{"", "0-3,8", "3-1", "1,", "1,0-1", "1024", "00"} {
		f.Add(text)
	}
	f.Fuzz(func(t *testing.T, text string) {
		in, wantE, wantAt := parsed(text)
		s, e, at := cpuset.Parse(text)
		if e != wantE || at != wantAt || cpuset.Len(s) != len(in) {
			t.Errorf("%q: %v, %d, %d, not %d, %d", text, cpuset.List(s), e, at, wantE, wantAt)
		}
	})
}
