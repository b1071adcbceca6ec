package natural_test

import (
	"math/big"
	"math/rand/v2"
	"slices"
	"testing"

	"koine/api"
	"koine/natural"
)

// P1.1, A2: sums, differences and products are those of math/big.
func TestArithmetic(t *testing.T) {
	l := samples(60)
	for _, a := range l {
		for _, b := range l {
			x, y := wide(a), wide(b)
			equal(t, "Add", add(t, a, b), narrow(new(big.Int).Add(x, y)))
			equal(t, "Mul", mul(t, a, b), narrow(new(big.Int).Mul(x, y)))
			if x.Cmp(y) < 0 {
				d, e := natural.Sub(a, b)
				refused(t, "Sub of a greater number", d, e, api.ErrNegative)
			} else {
				equal(t, "Sub", sub(t, a, b), narrow(new(big.Int).Sub(x, y)))
			}
		}
	}
}

// P1.1, A2, example 1: the greatest product of two limbs.
func TestArithmeticExample(t *testing.T) {
	c := mul(t, natural.Of(4294967295), natural.Of(4294967295))
	equal(t, "Mul", c, api.Nat{1, 4294967294})
	if s := natural.Text(c); s != "18446744065119617025" {
		t.Errorf("Text = %q", s)
	}
}

// P1.1, A2: ErrArg for each argument, before every other error.
func TestArithmeticInvalid(t *testing.T) {
	for _, bad := range invalid() {
		for _, a := range append(edges(), bad, ones(api.MaxLimbs)) {
			for _, f := range []func(a, b api.Nat) (api.Nat, api.Errno){natural.Add, natural.Sub, natural.Mul} {
				c, e := f(a, bad)
				refused(t, "invalid second argument", c, e, api.ErrArg)
				c, e = f(bad, a)
				refused(t, "invalid first argument", c, e, api.ErrArg)
			}
		}
	}
}

// P1.1, A2: a result of MaxLimbs limbs is returned, one of more limbs is not.
func TestArithmeticLimits(t *testing.T) {
	most, one := ones(api.MaxLimbs), api.Nat{1}
	equal(t, "most + 0", add(t, most, nil), most)
	equal(t, "0 + most", add(t, nil, most), most)
	almost := sub(t, most, one)
	equal(t, "(most - 1) + 1", add(t, almost, one), most)
	equal(t, "1 + (most - 1)", add(t, one, almost), most)
	half := power(api.MaxLimbs - 1)
	half[api.MaxLimbs-1] = 1 << 31
	equal(t, "2^32767 + (2^32767 - 1)", add(t, half, sub(t, half, one)), most)
	for _, x := range [][2]api.Nat{{most, one}, {one, most}, {half, half}, {most, most}} {
		c, e := natural.Add(x[0], x[1])
		refused(t, "sum beyond the limit", c, e, api.ErrLarge)
	}

	equal(t, "most * 1", mul(t, most, one), most)
	equal(t, "1 * most", mul(t, one, most), most)
	equal(t, "2^16384 * 2^16352", mul(t, power(512), power(511)), power(1023))
	square := new(big.Int).Mul(wide(ones(512)), wide(ones(512)))
	equal(t, "(2^16384 - 1)^2", mul(t, ones(512), ones(512)), narrow(square))
	for _, x := range [][2]api.Nat{
		{most, {2}}, {{2}, most}, {power(512), power(512)}, {ones(512), ones(513)}, {half, {2}}, {most, most}, {power(1023), {0, 1}},
	} {
		c, e := natural.Mul(x[0], x[1])
		refused(t, "product beyond the limit", c, e, api.ErrLarge)
	}
	equal(t, "most * 0", mul(t, most, nil), nil)
}

// P1.2: the laws of addition and multiplication.
func TestLaws(t *testing.T) {
	l := samples(6)
	for _, a := range l {
		equal(t, "a + 0", add(t, a, nil), a)
		equal(t, "0 + a", add(t, nil, a), a)
		equal(t, "a * 1", mul(t, a, api.Nat{1}), a)
		equal(t, "1 * a", mul(t, api.Nat{1}, a), a)
		for _, b := range l {
			sum := add(t, a, b)
			equal(t, "a + b", sum, add(t, b, a))
			equal(t, "a * b", mul(t, a, b), mul(t, b, a))
			equal(t, "a + b - b", sub(t, sum, b), a)
			equal(t, "a + b - a", sub(t, sum, a), b)
			for _, c := range l {
				equal(t, "(a + b) + c", add(t, sum, c), add(t, a, add(t, b, c)))
				equal(t, "(a * b) * c", mul(t, mul(t, a, b), c), mul(t, a, mul(t, b, c)))
				equal(t, "(a + b) * c", mul(t, sum, c), add(t, mul(t, a, c), mul(t, b, c)))
			}
		}
	}
}

// P1.4: a = b q + r with r less than b, and both are those of math/big.
func TestDivision(t *testing.T) {
	l := samples(60)
	for _, a := range l {
		for _, b := range l {
			if len(b) > 0 {
				checkDivision(t, a, b)
			}
		}
	}
	equalDivision(t, "100000000000000000000", "7", "14285714285714285714", "2")
	equalDivision(t, "6", "7", "0", "6")
	equalDivision(t, "0", "5", "0", "0")
	equalDivision(t, "18446744073709551616", "4294967296", "4294967296", "0")
}

func checkDivision(t *testing.T, a, b api.Nat) {
	t.Helper()
	q, r := div(t, a, b)
	quotient, rest := new(big.Int).QuoRem(wide(a), wide(b), new(big.Int))
	equal(t, "quotient", q, narrow(quotient))
	equal(t, "remainder", r, narrow(rest))
	if natural.Compare(r, b) >= 0 {
		t.Fatalf("the remainder %v of %v and %v is not less than the divisor", r, a, b)
	}
	equal(t, "b q + r", add(t, mul(t, b, q), r), a)
}

func equalDivision(t *testing.T, a, b, quotient, rest string) {
	t.Helper()
	q, r := div(t, parsed(t, a), parsed(t, b))
	if natural.Text(q) != quotient || natural.Text(r) != rest {
		t.Errorf("Div(%s, %s) = %s, %s, want %s, %s", a, b, natural.Text(q), natural.Text(r), quotient, rest)
	}
}

// P1.4: limbs for which the estimate of a limb of the quotient is too great by 1 or 2, and numbers around multiples of the divisor.
func TestDivisionEstimates(t *testing.T) {
	checkDivision(t, api.Nat{0, 0, 1 << 31, 1<<31 - 1}, api.Nat{1, 0, 1 << 31})
	checkDivision(t, api.Nat{0, 0, 0, 1 << 31}, api.Nat{1<<32 - 1, 1<<32 - 1, 1 << 31})
	checkDivision(t, api.Nat{0, 1<<32 - 2, 1 << 31}, api.Nat{1<<32 - 1, 1 << 31})
	checkDivision(t, api.Nat{3, 0, 1 << 31}, api.Nat{1, 0, 1 << 29})
	r := rand.New(rand.NewPCG(3, 4))
	for range 20000 {
		b := someLimbs(r, 1+r.IntN(5))
		q := someLimbs(r, r.IntN(5))
		multiple := mul(t, b, q)
		checkDivision(t, multiple, b)
		checkDivision(t, add(t, multiple, sub(t, b, api.Nat{1})), b)
		if len(multiple) > 0 {
			checkDivision(t, sub(t, multiple, api.Nat{1}), b)
		}
		checkDivision(t, someLimbs(r, r.IntN(9)), b)
	}
}

// P1.1, A3: numbers of MaxLimbs limbs can be divided.
func TestDivisionLimits(t *testing.T) {
	r := rand.New(rand.NewPCG(5, 6))
	for _, a := range []api.Nat{ones(api.MaxLimbs), power(api.MaxLimbs - 1), someLimbs(r, api.MaxLimbs)} {
		for _, b := range []api.Nat{{1}, {3}, {1<<32 - 1}, {1, 1}, ones(511), power(512), someLimbs(r, 700), ones(api.MaxLimbs), someLimbs(r, api.MaxLimbs)} {
			checkDivision(t, a, b)
		}
	}
}

// P1.1, A3: ErrArg comes before ErrZero, and with an error both numbers are 0.
func TestDivisionErrors(t *testing.T) {
	check := func(a, b api.Nat, want api.Errno) {
		t.Helper()
		q, r, e := natural.Div(a, b)
		refused(t, "quotient", q, e, want)
		refused(t, "remainder", r, e, want)
	}
	for _, bad := range invalid() {
		for _, a := range append(edges(), bad) {
			check(a, bad, api.ErrArg)
			check(bad, a, api.ErrArg)
		}
	}
	for _, a := range append(edges(), ones(api.MaxLimbs)) {
		check(a, nil, api.ErrZero)
		check(a, api.Nat{}, api.ErrZero)
	}
}

// R2: a result depends on the arguments only, not on earlier calls.
func TestRepeated(t *testing.T) {
	a, b := ones(30), power(7)
	first, _ := div(t, a, b)
	mul(t, first, first)
	second, _ := div(t, slices.Clone(a), slices.Clone(b))
	equal(t, "the second quotient", second, first)
}
