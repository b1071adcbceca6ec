// Package natural is layer 1: exact natural numbers. See shared/doc/01-natural.md.
package natural

import (
	"cmp"

	"koine/api"
)

const (
	limbBits = 32
	limbMask = 1<<limbBits - 1
)

// Valid reports whether the last limb is not 0 and there are at most MaxLimbs limbs.
func Valid(a api.Nat) bool {
	n := len(a)
	return n <= api.MaxLimbs && (n == 0 || a[n-1] != 0)
}

// Of returns n as a natural number.
func Of(n uint64) api.Nat {
	return canonical([]uint32{uint32(n), uint32(n >> limbBits)})
}

// Uint64 returns a if it fits into 64 bits.
func Uint64(a api.Nat) (uint64, bool) {
	if !Valid(a) || len(a) > 2 {
		return 0, false
	}
	n := uint64(0)
	for i := range len(a) {
		n |= uint64(a[i]) << (limbBits * i)
	}
	return n, true
}

// Compare returns -1, 0 or 1.
func Compare(a, b api.Nat) int {
	if !Valid(a) || !Valid(b) {
		return 0
	}
	return compareLimbs(a, b)
}

// compareLimbs expects limbs without leading zeros, so that the longer list is the greater number.
func compareLimbs(a, b []uint32) int {
	if len(a) != len(b) {
		return cmp.Compare(len(a), len(b))
	}
	for i := range len(a) {
		at := len(a) - 1 - i
		if a[at] != b[at] {
			return cmp.Compare(a[at], b[at])
		}
	}
	return 0
}

// trimmed returns the limbs without leading zeros; it shares their memory.
func trimmed(limbs []uint32) []uint32 {
	n := len(limbs)
	for n > 0 && limbs[n-1] == 0 {
		n--
	}
	return limbs[:n]
}

// canonical returns the number with these limbs in memory of its own, because a result shares none with an argument.
func canonical(limbs []uint32) api.Nat {
	return api.Nat(duplicate(trimmed(limbs)))
}

func duplicate(limbs []uint32) []uint32 {
	out := make([]uint32, len(limbs))
	copy(out, limbs)
	return out
}
