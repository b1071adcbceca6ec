package natural_test

import (
	"math/big"
	"math/rand/v2"
	"strings"
	"testing"

	"koine/api"
	"koine/natural"
)

func parsed(t *testing.T, s string) api.Nat {
	t.Helper()
	a, e := natural.Parse(s)
	is(t, "Parse of "+s, e, api.OK)
	return a
}

// P1.1, A4 and P1.5: Text returns the digits that math/big returns, and Parse reads them back.
func TestDecimal(t *testing.T) {
	l := append(samples(300), ones(api.MaxLimbs), power(api.MaxLimbs-1))
	for digits := 1; digits < 60; digits++ {
		ten := new(big.Int).Exp(big.NewInt(10), big.NewInt(int64(digits)), nil)
		l = append(l, narrow(ten), narrow(new(big.Int).Sub(ten, big.NewInt(1))), narrow(new(big.Int).Add(ten, big.NewInt(1))))
	}
	for _, a := range l {
		s := natural.Text(a)
		if want := wide(a).String(); s != want {
			t.Fatalf("Text(%v) = %s, want %s", a, s, want)
		}
		equal(t, "Parse(Text(a))", parsed(t, s), a)
	}
}

// P1.5: Text(Parse(s)) is s.
func TestDigitsAndBack(t *testing.T) {
	r := rand.New(rand.NewPCG(7, 8))
	l := []string{"0", "1", "9", "10", "4294967295", "4294967296", "999999999", "1000000000", "1000000001", "18446744073709551615", "18446744073709551616"}
	for range 300 {
		s := []byte{'1' + byte(r.IntN(9))}
		for range r.IntN(70) {
			s = append(s, "0000123456789999"[r.IntN(16)])
		}
		l = append(l, string(s))
	}
	for _, s := range l {
		a := parsed(t, s)
		if got := natural.Text(a); got != s {
			t.Fatalf("Text(Parse(%s)) = %s", s, got)
		}
		n, _ := new(big.Int).SetString(s, 10)
		equal(t, "Parse("+s+")", a, narrow(n))
	}
}

// P1.5: fewer digits are a smaller number; equally many are ordered like their digits.
func TestDecimalOrder(t *testing.T) {
	l := samples(40)
	for _, a := range l {
		for _, b := range l {
			s, u := natural.Text(a), natural.Text(b)
			want := strings.Compare(s, u)
			if len(s) < len(u) {
				want = -1
			} else if len(s) > len(u) {
				want = 1
			}
			if got := natural.Compare(a, b); got != want {
				t.Fatalf("Compare(%s, %s) = %d, want %d", s, u, got, want)
			}
		}
	}
}

// P1.1, A4: 0 is "0", and limbs that are not valid have no digits.
func TestTextEdges(t *testing.T) {
	if natural.Text(nil) != "0" || natural.Text(api.Nat{}) != "0" || natural.Text(natural.Of(0)) != "0" {
		t.Error("0 is not \"0\"")
	}
	equal(t, "Parse of 0", parsed(t, "0"), nil)
	for _, bad := range invalid() {
		if s := natural.Text(bad); s != "" {
			t.Errorf("Text of %d invalid limbs = %q", len(bad), s)
		}
	}
}

// P1.1, A4: what is no number has ErrNumber, however long it is.
func TestParseNoNumber(t *testing.T) {
	l := []string{
		"", "00", "01", "000", "007", "-1", "-0", "+1", "+", "-", " ", " 1", "1 ", "1\n", "\t1", "a", "0x1", "1e3", "1.0", "1,000", "1_000",
		"0 ", "0a", "/", ":", "1/", "1:", "12345678a", "123456789a", "1234567890a", "\x00", "1\x00", "\xb1", "1\xff",
		"\u0661", "1\u0662", "\uff11", "½", "12345678901234567890x",
		"0" + strings.Repeat("9", 9864), "0" + strings.Repeat("9", 20000), strings.Repeat("9", 20000) + "x", strings.Repeat("0", 20000), "x" + strings.Repeat("1", 20000),
	}
	for _, s := range l {
		a, e := natural.Parse(s)
		refused(t, "Parse of "+s, a, e, api.ErrNumber)
	}
}

// P1.1, A4, example 4: the limit of Parse is 2^32768.
func TestParseLimits(t *testing.T) {
	limit := new(big.Int).Lsh(big.NewInt(1), 32*api.MaxLimbs)
	for _, n := range []int64{1, 2, 1000000000} {
		s := new(big.Int).Sub(limit, big.NewInt(n)).String()
		if got := natural.Text(parsed(t, s)); got != s {
			t.Errorf("Text(Parse(2^32768 - %d)) is another number", n)
		}
	}
	equal(t, "2^32768 - 1", parsed(t, new(big.Int).Sub(limit, big.NewInt(1)).String()), ones(api.MaxLimbs))
	for _, n := range []int64{0, 1, 1000000000} {
		a, e := natural.Parse(new(big.Int).Add(limit, big.NewInt(n)).String())
		refused(t, "Parse beyond 2^32768", a, e, api.ErrLarge)
	}
	if s := "1" + strings.Repeat("0", 9864); natural.Text(parsed(t, s)) != s {
		t.Error("Text(Parse(10^9864)) is another number")
	}
	for _, s := range []string{"1" + strings.Repeat("0", 9865), strings.Repeat("9", 9865), strings.Repeat("9", 9866), strings.Repeat("1", 3000000)} {
		a, e := natural.Parse(s)
		refused(t, "Parse of "+s[:20]+"..", a, e, api.ErrLarge)
	}
}
