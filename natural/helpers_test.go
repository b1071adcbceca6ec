package natural_test

import (
	"math/big"
	"math/rand/v2"
	"slices"
	"testing"

	"koine/api"
	"koine/natural"
)

// wide returns the number as one of math/big, which the tests take as the authority on arithmetic.
func wide(a api.Nat) *big.Int {
	n := new(big.Int)
	for i := len(a) - 1; i >= 0; i-- {
		n.Lsh(n, 32)
		n.Or(n, big.NewInt(int64(a[i])))
	}
	return n
}

// narrow returns the limbs of a number of math/big.
func narrow(n *big.Int) api.Nat {
	a := api.Nat{}
	mask := big.NewInt(1<<32 - 1)
	for n = new(big.Int).Set(n); n.Sign() > 0; n.Rsh(n, 32) {
		a = append(a, uint32(new(big.Int).And(n, mask).Uint64()))
	}
	return a
}

// power returns 2^(32 n), which has n+1 limbs.
func power(n int) api.Nat {
	a := make(api.Nat, n+1)
	a[n] = 1
	return a
}

// ones returns 2^(32 n) - 1, which has n limbs.
func ones(n int) api.Nat {
	a := make(api.Nat, n)
	for i := range a {
		a[i] = 1<<32 - 1
	}
	return a
}

// invalid are lists of limbs that are no numbers.
func invalid() []api.Nat {
	return []api.Nat{{0}, {5, 0}, {0, 0}, {1, 2, 0}, power(api.MaxLimbs), ones(api.MaxLimbs + 1), make(api.Nat, api.MaxLimbs), make(api.Nat, 5000)}
}

// edges are the numbers around 0 and around the powers of the base.
func edges() []api.Nat {
	return []api.Nat{
		nil, {1}, {2}, {7}, {10}, {999999999}, {1000000000}, {1 << 31}, {1<<32 - 2}, {1<<32 - 1},
		{0, 1}, {1, 1}, {1<<32 - 1, 1}, {0, 1 << 31}, {1<<32 - 2, 1<<32 - 1}, {1<<32 - 1, 1<<32 - 1},
		{0, 0, 1}, {1, 0, 1}, {0, 1<<32 - 1, 1<<32 - 1}, ones(3), power(3), ones(40), power(40),
	}
}

// someLimbs returns a number of n limbs, many of which are near 0, near 2^31 or near 2^32.
func someLimbs(r *rand.Rand, n int) api.Nat {
	special := []uint32{0, 0, 1, 2, 1<<31 - 1, 1 << 31, 1<<31 + 1, 1<<32 - 2, 1<<32 - 1, 1<<32 - 1}
	a := make(api.Nat, n)
	for i := range a {
		a[i] = r.Uint32()
		if r.IntN(3) > 0 {
			a[i] = special[r.IntN(len(special))]
		}
	}
	if n > 0 && a[n-1] == 0 {
		a[n-1] = 1
	}
	return a
}

// samples are the edges and some more numbers, always the same ones.
func samples(more int) []api.Nat {
	r := rand.New(rand.NewPCG(1, 2))
	l := edges()
	for range more {
		l = append(l, someLimbs(r, r.IntN(9)))
	}
	return append(l, someLimbs(r, 60), someLimbs(r, 61))
}

// equal compares limb by limb, and fails if the number that a function returned is not valid.
func equal(t *testing.T, what string, got, want api.Nat) {
	t.Helper()
	if !natural.Valid(got) {
		t.Fatalf("%s: the limbs %v are not valid", what, got)
	}
	if !slices.Equal(got, want) {
		t.Fatalf("%s = %v, want %v", what, got, want)
	}
}

func is(t *testing.T, what string, got, want api.Errno) {
	t.Helper()
	if got != want {
		t.Fatalf("%s: error %d, want %d", what, got, want)
	}
}

// refused checks that a call returned an error and no number.
func refused(t *testing.T, what string, got api.Nat, e, want api.Errno) {
	t.Helper()
	is(t, what, e, want)
	if len(got) != 0 {
		t.Fatalf("%s: limbs %v beside error %d", what, got, e)
	}
}

func add(t *testing.T, a, b api.Nat) api.Nat {
	t.Helper()
	c, e := natural.Add(a, b)
	is(t, "Add", e, api.OK)
	return c
}

func sub(t *testing.T, a, b api.Nat) api.Nat {
	t.Helper()
	c, e := natural.Sub(a, b)
	is(t, "Sub", e, api.OK)
	return c
}

func mul(t *testing.T, a, b api.Nat) api.Nat {
	t.Helper()
	c, e := natural.Mul(a, b)
	is(t, "Mul", e, api.OK)
	return c
}

func div(t *testing.T, a, b api.Nat) (api.Nat, api.Nat) {
	t.Helper()
	q, r, e := natural.Div(a, b)
	is(t, "Div", e, api.OK)
	return q, r
}
