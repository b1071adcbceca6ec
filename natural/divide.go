package natural

import (
	"math/bits"

	"koine/api"
)

// Div returns the quotient and the remainder.
func Div(a, b api.Nat) (api.Nat, api.Nat, api.Errno) {
	if !Valid(a) || !Valid(b) {
		return nil, nil, api.ErrArg
	}
	if len(b) == 0 {
		return nil, nil, api.ErrZero
	}
	if compareLimbs(a, b) < 0 {
		return nil, canonical(a), api.OK
	}
	if len(b) == 1 {
		quotient := duplicate(a)
		rest := divideBy(quotient, b[0])
		return canonical(quotient), Of(uint64(rest)), api.OK
	}
	quotient, rest := divideLong(a, b)
	return canonical(quotient), canonical(rest), api.OK
}

// divideBy replaces the number in limbs by its quotient by one limb, and returns the remainder.
func divideBy(limbs []uint32, divisor uint32) uint32 {
	rest := uint32(0)
	for i := range len(limbs) {
		at := len(limbs) - 1 - i
		limbs[at], rest = bits.Div32(rest, limbs[at], divisor)
	}
	return rest
}

// divideLong is Knuth's algorithm D; b has at least two limbs, and a is not less than b.
// Both are shifted so that the highest bit of the divisor is set: then the estimate of a limb is at most 2 too great.
func divideLong(a, b []uint32) ([]uint32, []uint32) {
	shift := bits.LeadingZeros32(b[len(b)-1])
	divisor := trimmed(shiftedLeft(b, shift))
	rest := shiftedLeft(a, shift)
	n := len(divisor)
	quotient := make([]uint32, len(a)-n+1)
	for i := range len(quotient) {
		at := len(quotient) - 1 - i
		quotient[at] = quotientLimb(rest[at:at+n+1], divisor)
	}
	return quotient, shiftedRight(rest[:n], shift)
}

// quotientLimb divides part, which has one limb more than the divisor and a quotient of one limb; it leaves the remainder in part.
func quotientLimb(part, divisor []uint32) uint32 {
	n := len(divisor)
	limb := estimate(part, divisor)
	if subtractMultiple(part, divisor, limb) {
		limb--
		part[n] += addTo(part[:n], divisor)
	}
	return limb
}

// estimate returns the limb of the quotient or, rarely, one more; it looks at three limbs of part and two of the divisor.
func estimate(part, divisor []uint32) uint32 {
	n := len(divisor)
	top := uint64(part[n])<<limbBits | uint64(part[n-1])
	high, low := uint64(divisor[n-1]), uint64(divisor[n-2])
	limb, rest := top/high, top%high
	for limb > limbMask || limb*low > rest<<limbBits|uint64(part[n-2]) {
		limb--
		rest += high
		if rest > limbMask {
			break
		}
	}
	return uint32(limb)
}

// subtractMultiple subtracts divisor times factor from part, which has one limb more, and reports whether the difference is negative.
// A negative difference is left modulo the base to the length of part, so that adding the divisor once corrects it.
func subtractMultiple(part, divisor []uint32, factor uint32) bool {
	n := len(divisor)
	carry, borrow := uint64(0), uint32(0)
	for i := range n {
		t := uint64(divisor[i])*uint64(factor) + carry
		part[i], borrow = bits.Sub32(part[i], uint32(t), borrow)
		carry = t >> limbBits
	}
	part[n], borrow = bits.Sub32(part[n], uint32(carry), borrow)
	return borrow != 0
}

// shiftedLeft returns the number times 2^shift, with one limb more; shift is less than 32.
func shiftedLeft(limbs []uint32, shift int) []uint32 {
	out := make([]uint32, len(limbs)+1)
	for i := range len(limbs) {
		t := uint64(limbs[i]) << shift
		out[i] |= uint32(t)
		out[i+1] = uint32(t >> limbBits)
	}
	return out
}

// shiftedRight returns the number divided by 2^shift, rounded down; shift is less than 32.
func shiftedRight(limbs []uint32, shift int) []uint32 {
	out := make([]uint32, len(limbs))
	above := uint64(0)
	for i := range len(limbs) {
		at := len(limbs) - 1 - i
		t := above<<limbBits | uint64(limbs[at])
		out[at] = uint32(t >> shift)
		above = t & limbMask
	}
	return out
}
