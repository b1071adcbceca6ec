package natural

import (
	"slices"

	"koine/api"
)

const (
	// Decimal digits are converted in groups, as many as always fit into a limb.
	groupDigits = 9
	groupBase   = 1000000000

	// 30103/100000 is a little more than the decimal logarithm of 2: no number of MaxLimbs limbs has more digits.
	maxDigits = api.MaxLimbs*limbBits*30103/100000 + 1
)

// Text returns the decimal digits.
func Text(a api.Nat) string {
	if !Valid(a) {
		return ""
	}
	if len(a) == 0 {
		return "0"
	}
	// The digits come out least significant first.
	digits := []byte{}
	for rest := duplicate(a); len(rest) > 0; rest = trimmed(rest) {
		group := divideBy(rest, groupBase)
		for range groupDigits {
			digits = append(digits, '0'+byte(group%10))
			group /= 10
		}
	}
	for digits[len(digits)-1] == '0' {
		digits = digits[:len(digits)-1]
	}
	slices.Reverse(digits)
	return string(digits)
}

// Parse returns the number with these decimal digits.
func Parse(s string) (api.Nat, api.Errno) {
	if !isDecimal(s) {
		return nil, api.ErrNumber
	}
	if len(s) > maxDigits {
		return nil, api.ErrLarge
	}
	limbs := []uint32{}
	group, scale := uint32(0), uint32(1)
	for i := range len(s) {
		group = group*10 + uint32(s[i]-'0')
		scale *= 10
		if scale == groupBase || i == len(s)-1 {
			limbs = append(limbs, scaleAndAdd(limbs, scale, group))
			group, scale = 0, 1
		}
	}
	return limited(limbs)
}

// isDecimal reports whether s consists of digits and has no leading zero, unless it is "0".
func isDecimal(s string) bool {
	if s == "" || s[0] == '0' && s != "0" {
		return false
	}
	for i := range len(s) {
		if s[i] < '0' || s[i] > '9' {
			return false
		}
	}
	return true
}

// scaleAndAdd multiplies the number in limbs by scale, adds group, and returns the carry out of the last limb.
func scaleAndAdd(limbs []uint32, scale, group uint32) uint32 {
	carry := uint64(group)
	for i := range len(limbs) {
		t := uint64(limbs[i])*uint64(scale) + carry
		limbs[i] = uint32(t)
		carry = t >> limbBits
	}
	return uint32(carry)
}
