package natural

import (
	"math/bits"

	"koine/api"
)

// Add returns the sum.
func Add(a, b api.Nat) (api.Nat, api.Errno) {
	if !Valid(a) || !Valid(b) {
		return nil, api.ErrArg
	}
	if len(a) < len(b) {
		a, b = b, a
	}
	sum := make([]uint32, len(a)+1)
	copy(sum, a)
	addTo(sum, b)
	return limited(sum)
}

// Sub returns the difference.
func Sub(a, b api.Nat) (api.Nat, api.Errno) {
	if !Valid(a) || !Valid(b) {
		return nil, api.ErrArg
	}
	if compareLimbs(a, b) < 0 {
		return nil, api.ErrNegative
	}
	difference := duplicate(a)
	subtractFrom(difference, b)
	return canonical(difference), api.OK
}

// Mul returns the product.
func Mul(a, b api.Nat) (api.Nat, api.Errno) {
	if !Valid(a) || !Valid(b) {
		return nil, api.ErrArg
	}
	if len(a) == 0 || len(b) == 0 {
		return nil, api.OK
	}
	// A product has at least this many limbs; a longer one need not be computed.
	if len(a)+len(b)-1 > api.MaxLimbs {
		return nil, api.ErrLarge
	}
	product := make([]uint32, len(a)+len(b))
	for i := range len(a) {
		product[i+len(b)] = addMultiple(product[i:i+len(b)], b, a[i])
	}
	return limited(product)
}

// limited returns the number with these limbs, or ErrLarge if it has too many.
func limited(limbs []uint32) (api.Nat, api.Errno) {
	if len(trimmed(limbs)) > api.MaxLimbs {
		return nil, api.ErrLarge
	}
	return canonical(limbs), api.OK
}

// addTo adds b to the number in limbs, which is at least as long, and returns the carry out of the last limb.
func addTo(limbs, b []uint32) uint32 {
	carry := uint32(0)
	for i := range len(b) {
		limbs[i], carry = bits.Add32(limbs[i], b[i], carry)
	}
	for i := len(b); i < len(limbs) && carry != 0; i++ {
		limbs[i], carry = bits.Add32(limbs[i], 0, carry)
	}
	return carry
}

// subtractFrom subtracts b from the number in limbs, which is at least as long and not less.
func subtractFrom(limbs, b []uint32) {
	borrow := uint32(0)
	for i := range len(b) {
		limbs[i], borrow = bits.Sub32(limbs[i], b[i], borrow)
	}
	for i := len(b); i < len(limbs) && borrow != 0; i++ {
		limbs[i], borrow = bits.Sub32(limbs[i], 0, borrow)
	}
}

// addMultiple adds b times factor to the number in limbs, which is as long as b, and returns the carry out of the last limb.
func addMultiple(limbs, b []uint32, factor uint32) uint32 {
	carry := uint64(0)
	for i := range len(b) {
		// The greatest value is (2^32-1)^2 + 2(2^32-1) = 2^64-1.
		t := uint64(b[i])*uint64(factor) + uint64(limbs[i]) + carry
		limbs[i] = uint32(t)
		carry = t >> limbBits
	}
	return uint32(carry)
}
