package natural_test

import (
	"slices"
	"testing"

	"koine/api"
	"koine/natural"
)

// P1.1, A1: valid are at most MaxLimbs limbs whose last one is not 0.
func TestValid(t *testing.T) {
	for _, a := range append(edges(), api.Nat{}, ones(api.MaxLimbs), power(api.MaxLimbs-1)) {
		if !natural.Valid(a) {
			t.Errorf("%d limbs %v: not valid", len(a), a)
		}
	}
	for _, a := range invalid() {
		if natural.Valid(a) {
			t.Errorf("%d limbs: valid", len(a))
		}
	}
}

// P1.1, A1: Of and Uint64 agree up to 2^64 - 1; greater numbers do not fit.
func TestOfAndUint64(t *testing.T) {
	for _, x := range []struct {
		n     uint64
		limbs api.Nat
	}{
		{0, nil},
		{1, api.Nat{1}},
		{1<<32 - 1, api.Nat{1<<32 - 1}},
		{1 << 32, api.Nat{0, 1}},
		{1<<32 + 5, api.Nat{5, 1}},
		{1 << 63, api.Nat{0, 1 << 31}},
		{1<<64 - 2, api.Nat{1<<32 - 2, 1<<32 - 1}},
		{1<<64 - 1, api.Nat{1<<32 - 1, 1<<32 - 1}},
	} {
		equal(t, "Of", natural.Of(x.n), x.limbs)
		if n, ok := natural.Uint64(x.limbs); n != x.n || !ok {
			t.Errorf("Uint64(%v) = %d, %v, want %d", x.limbs, n, ok, x.n)
		}
	}
	for _, a := range append(invalid(), api.Nat{0, 0, 1}, api.Nat{7, 0, 1}, ones(3), ones(api.MaxLimbs)) {
		if n, ok := natural.Uint64(a); n != 0 || ok {
			t.Errorf("Uint64 of %d limbs = %d, %v, want 0, false", len(a), n, ok)
		}
	}
}

// P1.1, A1 and P1.3: Compare is the order of the numbers.
func TestCompare(t *testing.T) {
	l := append(samples(30), ones(api.MaxLimbs), power(api.MaxLimbs-1))
	for _, a := range l {
		for _, b := range l {
			if got, want := natural.Compare(a, b), wide(a).Cmp(wide(b)); got != want {
				t.Fatalf("Compare(%v, %v) = %d, want %d", a, b, got, want)
			}
		}
	}
}

// P1.1, A1: Compare returns 0 if an argument is not valid.
func TestCompareInvalid(t *testing.T) {
	for _, bad := range invalid() {
		for _, a := range append(edges(), invalid()...) {
			if x, y := natural.Compare(a, bad), natural.Compare(bad, a); x != 0 || y != 0 {
				t.Errorf("Compare with %d invalid limbs = %d, %d, want 0", len(bad), x, y)
			}
		}
	}
}

// P1.3: the order is total, and addition and multiplication preserve it.
func TestOrder(t *testing.T) {
	l := samples(10)
	for _, a := range l {
		for _, b := range l {
			order := natural.Compare(a, b)
			if order != -natural.Compare(b, a) || (order == 0) != slices.Equal(a, b) {
				t.Fatalf("Compare(%v, %v) = %d is not antisymmetric", a, b, order)
			}
			if sum := add(t, a, b); natural.Compare(sum, a) < 0 || natural.Compare(sum, b) < 0 {
				t.Fatalf("%v + %v is less than one of them", a, b)
			}
			for _, c := range l {
				if order <= 0 && natural.Compare(b, c) <= 0 && natural.Compare(a, c) > 0 {
					t.Fatalf("%v, %v, %v: not transitive", a, b, c)
				}
				if natural.Compare(add(t, a, c), add(t, b, c)) != order {
					t.Fatalf("adding %v changes the order of %v and %v", c, a, b)
				}
				if len(c) > 0 && natural.Compare(mul(t, a, c), mul(t, b, c)) != order {
					t.Fatalf("multiplying by %v changes the order of %v and %v", c, a, b)
				}
			}
		}
	}
}

// P1.6: equal numbers have equal limbs, however they are computed.
func TestCanonical(t *testing.T) {
	for _, a := range samples(40) {
		equal(t, "a - a", sub(t, a, a), nil)
		equal(t, "a * 0", mul(t, a, nil), nil)
		equal(t, "0 * a", mul(t, nil, a), nil)
		equal(t, "(a + 1) - a", sub(t, add(t, a, api.Nat{1}), a), api.Nat{1})
		equal(t, "a + a", add(t, a, a), mul(t, a, api.Nat{2}))
		if len(a) > 0 {
			q, r := div(t, a, a)
			equal(t, "a / a", q, api.Nat{1})
			equal(t, "a mod a", r, nil)
			q, r = div(t, sub(t, a, api.Nat{1}), a)
			equal(t, "(a - 1) / a", q, nil)
			equal(t, "(a - 1) mod a", r, sub(t, a, api.Nat{1}))
		}
	}
	equal(t, "2^96 - (2^96 - 1)", sub(t, power(3), ones(3)), api.Nat{1})
	equal(t, "2^96 - 1", sub(t, power(3), api.Nat{1}), ones(3))
	equal(t, "(2^96 - 1) + 1", add(t, ones(3), api.Nat{1}), power(3))
}

// R6: arguments, including their spare capacity, stay as they are, and a result shares no memory.
func TestMemory(t *testing.T) {
	whole := api.Nat{9, 8, 7, 6, 5, 4, 3, 2}
	spare := []uint32{11, 12, 13, 14}
	calls := map[string]func(a, b api.Nat) []api.Nat{
		"Add":   func(a, b api.Nat) []api.Nat { c, _ := natural.Add(a, b); return []api.Nat{c} },
		"Sub":   func(a, b api.Nat) []api.Nat { c, _ := natural.Sub(a, b); return []api.Nat{c} },
		"Mul":   func(a, b api.Nat) []api.Nat { c, _ := natural.Mul(a, b); return []api.Nat{c} },
		"Div":   func(a, b api.Nat) []api.Nat { q, r, _ := natural.Div(a, b); return []api.Nat{q, r} },
		"Text":  func(a, b api.Nat) []api.Nat { natural.Text(a); return nil },
		"Small": func(a, b api.Nat) []api.Nat { natural.Compare(a, b); natural.Uint64(a); return nil },
	}
	for name, call := range calls {
		for _, b := range []api.Nat{nil, {1}, {3, 2}, {9, 8, 7, 6, 5, 4, 3, 2}, ones(9)} {
			a := append(slices.Clone(whole), spare...)[:len(whole)]
			c := append(slices.Clone(b), spare...)[:len(b)]
			results := call(a, c)
			for i, r := range results {
				r = r[:cap(r)]
				for j := range r {
					r[j] = 77
				}
				for _, other := range results[i+1:] {
					if slices.Contains(other, 77) {
						t.Errorf("%s: two results share memory", name)
					}
				}
			}
			if !slices.Equal(a, whole) || !slices.Equal(a[:len(a)+4][len(a):], spare) {
				t.Errorf("%s changes its first argument", name)
			}
			if !slices.Equal(c, b) || !slices.Equal(c[:len(c)+4][len(c):], spare) {
				t.Errorf("%s changes its second argument", name)
			}
		}
	}
}
