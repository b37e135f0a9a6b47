package cpuset

import (
	"strconv"

	"pinfold/api"
)

// Print is the text of s: its rows of neighbours, rising.
func Print(s api.Set) string {
	var text []byte
	for from, ok := First(s); ok; {
		to := rowEnd(s, from)
		if len(text) > 0 {
			text = append(text, ',')
		}
		text = strconv.AppendInt(text, int64(from), 10)
		if to > from {
			text = append(text, '-')
			text = strconv.AppendInt(text, int64(to), 10)
		}
		from, ok = Next(s, to+1)
	}
	return string(text)
}

// rowEnd is the last one of the row of neighbours in s that from begins.
func rowEnd(s api.Set, from int) int {
	to := from
	for Has(s, to+1) {
		to++
	}
	return to
}

// Parse is the set that s is the text of; or an empty one, the first error, and its place.
func Parse(s string) (api.Set, api.Errno, int) {
	var all api.Set
	if s == "" { // the one text that may end where a number could begin
		return all, api.OK, 0
	}
	for at := 0; ; {
		from, to, end, e := parseItem(s, at)
		if e != api.OK {
			return api.Set{}, e, end
		}
		row := Range(from, to)
		if Meets(all, row) {
			return api.Set{}, api.ErrTwice, at
		}
		all = Or(all, row)
		if end == len(s) {
			return all, api.OK, 0
		}
		at = end + 1
	}
}

// parseItem reads the item at the place at: its first and last worker, and the place behind it; or an error, and its place as end.
// The byte behind the item is looked at here, as it goes ahead of what the caller finds wrong with the workers.
func parseItem(s string, at int) (from, to, end int, e api.Errno) {
	from, end, e = parseNumber(s, at)
	if e != api.OK {
		return 0, 0, at, e
	}
	to = from
	if end < len(s) && s[end] == '-' {
		second := end + 1
		to, end, e = parseNumber(s, second)
		if e == api.OK && to < from {
			e = api.ErrSize
		}
		if e != api.OK {
			return 0, 0, second, e
		}
	}
	if end < len(s) && s[end] != ',' {
		return 0, 0, end, api.ErrByte
	}
	return from, to, end, api.OK
}

// parseNumber reads the number that begins at the place at, and the place behind it; an error's place is at.
func parseNumber(s string, at int) (n, end int, e api.Errno) {
	if at == len(s) {
		return 0, at, api.ErrEnd
	}
	end = at
	for end < len(s) && isDigit(s[end]) {
		n = min(n*10+int(s[end]-'0'), api.MaxCpu) // no further than the first number that is too great: more digits can't go round
		end++
	}
	switch {
	case end == at:
		return 0, at, api.ErrByte
	case n >= api.MaxCpu, s[at] == '0' && end > at+1:
		return 0, at, api.ErrSize
	}
	return n, end, api.OK
}

// isDigit tells whether c is a decimal digit.
func isDigit(c byte) bool { return c >= '0' && c <= '9' }
