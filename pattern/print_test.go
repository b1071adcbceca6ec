package pattern_test

import (
	"math/rand/v2"
	"slices"
	"strings"
	"testing"

	"koine/api"
	"koine/pattern"
)

// checkPrint fails unless Print returns the text of a tree, Parse of it the postorder, and none of its pairs of parentheses can be left out. p is a pattern of the tree.
func checkPrint(t *testing.T, x *tree, p api.Pattern) {
	t.Helper()
	s, e := pattern.Print(p)
	expectText(t, "Print", s, e, x.text(), api.OK)
	want := x.postorder()
	back, e := pattern.Parse(s)
	expect(t, "Parse of "+s, back, e, want, api.OK)
	for _, without := range withoutPairs(s) {
		if q, e := pattern.Parse(without); e == api.OK && slices.Equal(q, want) {
			t.Fatalf("%s is printed, but %s is enough", s, without)
		}
	}
}

// withoutPairs returns the strings that one gets by leaving out a pair of parentheses other than `()`.
func withoutPairs(s string) []string {
	var l []string
	var open []int
	for i, b := range []byte(s) {
		switch b {
		case '(':
			open = append(open, i)
		case ')':
			start := open[len(open)-1]
			open = open[:len(open)-1]
			if i > start+1 {
				l = append(l, s[:start]+s[start+1:i]+s[i+1:])
			}
		}
	}
	return l
}

// P4.1, P4.5, D3: all trees with up to six nodes.
func TestPrintSmall(t *testing.T) {
	for n := 1; n <= 6; n++ {
		for _, x := range small(n) {
			checkPrint(t, x, x.postorder())
		}
	}
}

// P4.1, P4.5, D3: random trees, whose nodes are in a random order.
func TestPrintRandom(t *testing.T) {
	r := rand.New(rand.NewPCG(4, 13))
	for range 3000 {
		x := random(r, 1+r.IntN(40), anyBytes(r))
		checkPrint(t, x, x.shuffled(r))
	}
	for range 10 {
		x := random(r, api.MaxNodes, anyBytes(r))
		if x.size() > api.MaxNodes {
			t.Fatalf("%d nodes", x.size())
		}
		checkPrint(t, x, x.shuffled(r))
	}
}

// P4.1, D3: every range of bytes.
func TestPrintRanges(t *testing.T) {
	for lo := range 256 {
		for hi := lo; hi < 256; hi++ {
			x := bytesTo(lo, hi)
			s, e := pattern.Print(x.postorder())
			expectText(t, "Print", s, e, x.text(), api.OK)
		}
	}
	for want, x := range map[string]*tree{
		"!": bytesTo(33, 33), "~": bytesTo(126, 126), `\x20`: bytesTo(32, 32), `\x7f`: bytesTo(127, 127), `\x00`: bytesTo(0, 0), `\xff`: bytesTo(255, 255), `\x0a`: bytesTo(10, 10),
		`\x28`: char('('), `\x29`: char(')'), `\x2a`: char('*'), `\x2d`: char('-'), `\x5b`: char('['), `\x5c`: char('\\'), `\x5d`: char(']'), `\x7c`: char('|'),
		"+": char('+'), ",": char(','), ".": char('.'), "Z": char('Z'), "^": char('^'), "{": char('{'), "}": char('}'), "'": char('\''),
		"[a-z]": bytesTo('a', 'z'), `[\x00-\xff]`: bytesTo(0, 255), `[+-\x2d]`: bytesTo('+', '-'), `[\x5b-\x5d]`: bytesTo('[', ']'), `[z-\x7c]`: bytesTo('z', '|'),
	} {
		s, e := pattern.Print(x.postorder())
		expectText(t, "Print", s, e, want, api.OK)
	}
}

// P4.1, P4.5, D3: parentheses stand where the chapter says, and nowhere else.
func TestPrintParentheses(t *testing.T) {
	a, b, c := char('a'), char('b'), char('c')
	for _, x := range []struct {
		tree *tree
		want string
	}{
		{alt(a, b), "a|b"},
		{alt(alt(a, b), c), "a|b|c"},
		{alt(a, alt(b, c)), "a|(b|c)"},
		{alt(a, seq(b, c)), "a|bc"},
		{alt(seq(a, b), c), "ab|c"},
		{alt(repeat(a), repeat(b)), "a*|b*"},
		{seq(a, b), "ab"},
		{seq(seq(a, b), c), "abc"},
		{seq(a, seq(b, c)), "a(bc)"},
		{seq(alt(a, b), c), "(a|b)c"},
		{seq(a, alt(b, c)), "a(b|c)"},
		{seq(repeat(a), repeat(b)), "a*b*"},
		{seq(empty(), empty()), "()()"},
		{repeat(a), "a*"},
		{repeat(repeat(repeat(a))), "a***"},
		{repeat(alt(a, b)), "(a|b)*"},
		{repeat(seq(a, b)), "(ab)*"},
		{repeat(empty()), "()*"},
		{repeat(bytesTo('a', 'b')), "[a-b]*"},
		{repeat(seq(a, repeat(alt(b, c)))), "(a(b|c)*)*"},
		{alt(alt(a, alt(b, c)), seq(seq(a, b), seq(b, c))), "a|(b|c)|ab(bc)"},
		{seq(seq(alt(a, b), seq(b, c)), alt(c, empty())), "(a|b)(bc)(c|())"},
	} {
		s, e := pattern.Print(x.tree.postorder())
		expectText(t, "Print", s, e, x.want, api.OK)
		checkPrint(t, x.tree, x.tree.postorder())
	}
}

// P4.1, P4.5, D3: the deepest patterns, and those with the longest strings.
func TestPrintDeep(t *testing.T) {
	s, e := pattern.Print(stars(api.MaxNodes))
	expectText(t, "Print", s, e, "a"+strings.Repeat("*", api.MaxNodes-1), api.OK)
	right, left, wide := char('b'), char('b'), bytesTo(0, 32)
	for range 255 {
		right, left, wide = seq(char('a'), right), alt(left, char('a')), seq(bytesTo(0, 32), wide)
	}
	s, e = pattern.Print(right.postorder())
	expectText(t, "Print", s, e, strings.Repeat("a(", 254)+"ab"+strings.Repeat(")", 254), api.OK)
	checkPrint(t, right, right.postorder())
	s, e = pattern.Print(left.postorder())
	expectText(t, "Print", s, e, "b"+strings.Repeat("|a", 255), api.OK)
	checkPrint(t, wide, wide.postorder())
}
