package chart

import (
	"math/bits"
	"slices"
)

// An agenda is a set of numbers from which the least one is taken. It has a bit for each number, and on each further level one for each word of the level before, as long as there is more than one.
type agenda [][]uint64

// newAgenda returns an empty agenda for the numbers less than n, of which there is at least one.
func newAgenda(n int) agenda {
	var a agenda
	for size := n; size > 1 || a == nil; {
		size = (size + bits.UintSize - 1) / bits.UintSize
		a = append(a, make([]uint64, size))
	}
	return a
}

// add adds a number.
func (a agenda) add(n int) {
	for _, level := range a {
		level[n/64] |= 1 << (n % 64)
		n /= 64
	}
}

// take removes the least number and returns it, or false if there is none.
func (a agenda) take() (int, bool) {
	if a[len(a)-1][0] == 0 {
		return 0, false
	}
	n := 0
	for _, level := range slices.Backward(a) {
		n = 64*n + bits.TrailingZeros64(level[n])
	}
	rest := n
	for _, level := range a {
		level[rest/64] &^= 1 << (rest % 64)
		if level[rest/64] != 0 {
			break
		}
		rest /= 64
	}
	return n, true
}
