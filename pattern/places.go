package pattern

import (
	"iter"
	"math/bits"

	"koine/api"
)

const (
	// With this many nodes of the kind PatternRange, a pattern has MaxNodes - 1 nodes at least.
	maxPlaces = api.MaxNodes / 2
	wordBits  = 64
)

// places is a set of places of a machine, as bits.
type places [maxPlaces / wordBits]uint64

func (s *places) add(place int) { s[place/wordBits] |= 1 << (place % wordBits) }

func (s *places) unite(t *places) {
	for i := range s {
		s[i] |= t[i]
	}
}

func (s *places) intersect(t *places) {
	for i := range s {
		s[i] &= t[i]
	}
}

func (s *places) subtract(t *places) {
	for i := range s {
		s[i] &^= t[i]
	}
}

func (s *places) has(place int) bool { return s[place/wordBits]>>(place%wordBits)&1 == 1 }

// all yields the places of a set in ascending order.
func (s *places) all() iter.Seq[int] {
	return func(yield func(int) bool) {
		for i, word := range s {
			for ; word != 0; word &= word - 1 {
				if !yield(i*wordBits + bits.TrailingZeros64(word)) {
					return
				}
			}
		}
	}
}
