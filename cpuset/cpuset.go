// Package cpuset is layer 1: sets of workers, and what is asked of them.
package cpuset

import (
	"math/bits"

	"pinfold/api"
)

// wordBits is how many workers a word of a set has.
const wordBits = 64

// isCpu tells whether n is a worker's number.
func isCpu(n int) bool { return n >= 0 && n < api.MaxCpu }

// Of is the set of those of l that are workers' numbers.
func Of(l ...int) api.Set {
	var s api.Set
	for _, n := range l {
		s = Put(s, n)
	}
	return s
}

// Range is the set of the workers from from to to, both with it.
func Range(from, to int) api.Set {
	var s api.Set
	from, to = max(from, 0), min(to, api.MaxCpu-1)
	if from > to { // told here, as the differences below could go round otherwise
		return s
	}
	for i := range len(s) {
		low, high := max(from-i*wordBits, 0), min(to-i*wordBits, wordBits-1)
		if low <= high {
			s[i] = ^uint64(0) >> (wordBits - 1 - (high - low)) << low
		}
	}
	return s
}

// Put is s with the worker n.
func Put(s api.Set, n int) api.Set {
	if isCpu(n) {
		s[n/wordBits] |= 1 << (n % wordBits)
	}
	return s
}

// Drop is s without the worker n.
func Drop(s api.Set, n int) api.Set {
	if isCpu(n) {
		s[n/wordBits] &^= 1 << (n % wordBits)
	}
	return s
}

// Has tells whether the worker n is in s.
func Has(s api.Set, n int) bool {
	return isCpu(n) && s[n/wordBits]>>(n%wordBits)&1 == 1
}

// Len is how many workers are in s.
func Len(s api.Set) int {
	count := 0
	for i := range len(s) {
		count += bits.OnesCount64(s[i])
	}
	return count
}

// Next is the least worker of s that is from or more.
func Next(s api.Set, from int) (int, bool) {
	return First(And(s, Range(from, api.MaxCpu-1)))
}

// First is the least worker of s.
func First(s api.Set) (int, bool) {
	for i := range len(s) {
		if s[i] != 0 {
			return i*wordBits + bits.TrailingZeros64(s[i]), true
		}
	}
	return 0, false
}

// List is the workers of s, rising.
func List(s api.Set) []int {
	var l []int
	for i := range len(s) {
		for w := s[i]; w != 0; w &= w - 1 {
			l = append(l, i*wordBits+bits.TrailingZeros64(w))
		}
	}
	return l
}

// And is the set of those that are in both.
func And(a, b api.Set) api.Set {
	for i := range len(a) {
		a[i] &= b[i]
	}
	return a
}

// Or is the set of those that are in one of both at least.
func Or(a, b api.Set) api.Set {
	for i := range len(a) {
		a[i] |= b[i]
	}
	return a
}

// Minus is the set of those of a that aren't in b.
func Minus(a, b api.Set) api.Set {
	for i := range len(a) {
		a[i] &^= b[i]
	}
	return a
}

// Within tells whether all of a are in b.
func Within(a, b api.Set) bool { return And(a, b) == a }

// Meets tells whether one of a is in b.
func Meets(a, b api.Set) bool { return And(a, b) != api.Set{} }
