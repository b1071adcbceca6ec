package pattern_test

import (
	"math/rand/v2"
	"strings"
	"testing"

	"koine/api"
	"koine/pattern"
)

// everyString matches every string over the bytes.
func everyString() *tree { return repeat(bytesTo(0, 255)) }

// agreeFirst fails unless Shortest and Common return what a search through the strings over an alphabet says. The nodes of the patterns are in a random order.
func agreeFirst(t *testing.T, r *rand.Rand, x, y *tree, alphabet string) string {
	t.Helper()
	p, q := x.shuffled(r), y.shuffled(r)
	want, error := firstCommon(x, everyString(), alphabet)
	s, e := pattern.Shortest(p)
	expectText(t, "Shortest of "+x.text(), s, e, want, error)
	s, e = pattern.Common(p, x.shuffled(r))
	expectText(t, "Common of twice "+x.text(), s, e, want, error)
	want, error = firstCommon(x, y, alphabet)
	s, e = pattern.Common(p, q)
	expectText(t, "Common of "+x.text()+" and "+y.text(), s, e, want, error)
	s, e = pattern.Common(q, p)
	expectText(t, "Common of "+y.text()+" and "+x.text(), s, e, want, error)
	if e == api.OK && !(pattern.Matches(p, s) && pattern.Matches(q, s)) {
		t.Fatalf("%q is not common to %s and %s", s, x.text(), y.text())
	}
	return s
}

// P4.1, P4.4, D5: all pairs of trees with up to four nodes.
func TestFirstSmall(t *testing.T) {
	r := rand.New(rand.NewPCG(4, 9))
	var l []*tree
	for n := 1; n <= 4; n++ {
		l = append(l, small(n)...)
	}
	for _, x := range l {
		for _, y := range l {
			agreeFirst(t, r, x, y, "abc")
		}
	}
}

// P4.1, P4.4, D5: random trees.
func TestFirstRandom(t *testing.T) {
	r := rand.New(rand.NewPCG(4, 10))
	long := 0
	for range 3000 {
		x, y := random(r, 1+r.IntN(30), letters(r)), random(r, 1+r.IntN(30), letters(r))
		if len(agreeFirst(t, r, x, y, "abcde")) > 2 {
			long++
		}
	}
	if long < 100 {
		t.Errorf("only %d strings of more than two bytes", long)
	}
	for range 300 {
		agreeFirst(t, r, random(r, 1+r.IntN(8), anyBytes(r)), random(r, 1+r.IntN(8), anyBytes(r)), allBytes())
	}
}

// P4.4: no nonempty string before the results is matched.
func TestFirstPrecedes(t *testing.T) {
	r := rand.New(rand.NewPCG(4, 11))
	l := stringsOf("abcd", 4)[1:]
	for range 600 {
		x, y := random(r, 1+r.IntN(20), letters(r)), random(r, 1+r.IntN(20), letters(r))
		p, q := x.shuffled(r), y.shuffled(r)
		shortest, common := "", ""
		for i := len(l) - 1; i >= 0; i-- {
			if x.matches(l[i]) {
				shortest = l[i]
				if y.matches(l[i]) {
					common = l[i]
				}
			}
		}
		if s, e := pattern.Shortest(p); s != shortest && (shortest != "" || e == api.OK && len(s) <= 4) {
			t.Fatalf("Shortest of %s = %q, %v, want %q", x.text(), s, e, shortest)
		}
		if s, e := pattern.Common(p, q); s != common && (common != "" || e == api.OK && len(s) <= 4) {
			t.Fatalf("Common of %s and %s = %q, %v, want %q", x.text(), y.text(), s, e, common)
		}
	}
}

// P4.1, P4.4, D5: shorter strings come first, and those of the same length byte by byte.
func TestShortest(t *testing.T) {
	for s, want := range map[string]string{
		"b|aa":                         "b",
		"aa|b":                         "b",
		"bb|ba|ab|aaa":                 "ab",
		"[b-z]a|bc":                    "ba",
		"(b|[a-c])(z|y)":               "ay",
		"(c|b)d|be|bc":                 "bc",
		"[a-c][a-c]|aa":                "aa",
		"[a-c](d|e)|[b-c]a":            "ad",
		"a*":                           "a",
		"(bc)*":                        "bc",
		"(()|b)(()|a)":                 "a",
		"()|()*|b()":                   "b",
		"b*(c|da)":                     "c",
		`[\x00-\xff]`:                  "\x00",
		`[\x7f-\xff]|\x80`:             "\x7f",
		`\xff|\xfe\x00`:                "\xff",
		`\xffa|\x80b|\x81a`:            "\x80b",
		"[a-b]x*[b-c]|[b-c][a-c]|acaa": "ab",
		"(ab|b)(c|ac)":                 "bc",
	} {
		got, e := pattern.Shortest(must(t, s))
		expectText(t, "Shortest of "+s, got, e, want, api.OK)
		got, e = pattern.Common(must(t, s), must(t, s))
		expectText(t, "Common of twice "+s, got, e, want, api.OK)
	}
	for _, s := range []string{"()", "()*", "()|()", "()()", "(()|()()*)*"} {
		got, e := pattern.Shortest(must(t, s))
		expectText(t, "Shortest of "+s, got, e, "", api.ErrNone)
		got, e = pattern.Common(must(t, s), must(t, "a*"))
		expectText(t, "Common of "+s, got, e, "", api.ErrNone)
		got, e = pattern.Common(must(t, "a*"), must(t, s))
		expectText(t, "Common of "+s, got, e, "", api.ErrNone)
	}
}

// P4.1, P4.4, D5: strings that two patterns have in common, in both orders.
func TestCommon(t *testing.T) {
	for _, x := range [][3]string{
		{"[a-m]", "[g-z]", "g"},
		{"[a-c]", "[c-e]", "c"},
		{"[a-z]", "[g-h]", "g"},
		{`[\x00-\xff]`, `\xff`, "\xff"},
		{"a|bb|ccc", "b|cc|ccc", "ccc"},
		{"a*", "(aa)*(aaa)*", "aa"},
		{"(aa)*", "(aaa)*", "aaaaaa"},
		{"(a|b)*abb", "b(a|b)*", "babb"},
		{"[a-z]([a-z])*", "w(hile)|i(f|n)", "if"},
		{"(b|c)(c|b)", "[a-z][c-z]|[c-z][a-z]", "bc"},
		{"[a-b][a-b]", "b*", "bb"},
		{"a*b*", "b*a*", "a"},
		{"aa*bb*", "(ab)*", "ab"},
		{"[a-b]c|[b-d]a", "[a-b]c|[b-d]b|ba", "ac"},
	} {
		p, q := must(t, x[0]), must(t, x[1])
		s, e := pattern.Common(p, q)
		expectText(t, "Common of "+x[0]+" and "+x[1], s, e, x[2], api.OK)
		s, e = pattern.Common(q, p)
		expectText(t, "Common of "+x[1]+" and "+x[0], s, e, x[2], api.OK)
	}
	for _, x := range [][2]string{{"[a-c]", "[d-f]"}, {"[a-c]", "[A-Z]"}, {"a*", "b*"}, {"ab", "a"}, {"a(aa)*", "(aa)*"}, {"(a|b)*a", "(a|b)*b"}, {`\x00`, "()"}, {"ab*", "ba*"}} {
		p, q := must(t, x[0]), must(t, x[1])
		s, e := pattern.Common(p, q)
		expectText(t, "Common of "+x[0]+" and "+x[1], s, e, "", api.ErrNone)
		s, e = pattern.Common(q, p)
		expectText(t, "Common of "+x[1]+" and "+x[0], s, e, "", api.ErrNone)
	}
}

// P4.1, P4.4, D5: large patterns, the longest of first strings, and a search that finds none.
func TestFirstLarge(t *testing.T) {
	p, q := must(t, "("+strings.Repeat("a", 255)+")*"), must(t, "("+strings.Repeat("a", 256)+")*")
	s, e := pattern.Common(p, q)
	expectText(t, "Common", s, e, strings.Repeat("a", 255*256), api.OK)
	s, e = pattern.Shortest(q)
	expectText(t, "Shortest", s, e, strings.Repeat("a", 256), api.OK)
	many := "(" + strings.Repeat("a|", 253) + "a)*"
	s, e = pattern.Common(must(t, many+"b"), must(t, many+"c"))
	expectText(t, "Common", s, e, "", api.ErrNone)
	s, e = pattern.Shortest(must(t, many+"b"))
	expectText(t, "Shortest", s, e, "b", api.OK)
	s, e = pattern.Common(stars(api.MaxNodes), stars(api.MaxNodes))
	expectText(t, "Common", s, e, "a", api.OK)
	all, _ := pattern.Literal(allBytes())
	s, e = pattern.Common(all, must(t, `([\x00-\xff])*`))
	expectText(t, "Common", s, e, allBytes(), api.OK)
}
