package formula_test

import (
	"math/rand/v2"
	"slices"
	"strings"
	"testing"

	"koine/api"
	"koine/formula"
)

// checkPrint fails unless Print returns the text of a tree, Parse of it the postorder, and none of its pairs of parentheses can be left out.
func checkPrint(t *testing.T, names []string, x *expr, f api.Formula) {
	t.Helper()
	s, e := formula.Print(names, f)
	expectText(t, "Print", s, e, x.text(names), api.OK)
	want := x.postorder()
	back, e := formula.Parse(names, s)
	expect(t, "Parse of "+s, back, e, want, api.OK)
	for _, without := range withoutPairs(s) {
		if g, e := formula.Parse(names, without); e == api.OK && slices.Equal(g, want) {
			t.Fatalf("%s is printed, but %s is enough", s, without)
		}
	}
}

// withoutPairs returns the strings that one gets by leaving out a pair of parentheses.
func withoutPairs(s string) []string {
	var l []string
	var open []int
	for i, b := range []byte(s) {
		switch b {
		case '(':
			open = append(open, i)
		case ')':
			start := open[len(open)-1]
			open = open[:len(open)-1]
			l = append(l, s[:start]+s[start+1:i]+s[i+1:])
		}
	}
	return l
}

// P3.1, P3.2, C3: all trees with up to six nodes.
func TestPrintSmall(t *testing.T) {
	for n := 1; n <= 6; n++ {
		for _, x := range small(n) {
			checkPrint(t, abc(), x, x.postorder())
		}
	}
}

// P3.1, P3.2, C3: random trees, whose nodes are in a random order.
func TestPrintRandom(t *testing.T) {
	r := rand.New(rand.NewPCG(3, 6))
	names := many()
	for range 3000 {
		x := random(r, 1+r.IntN(40), r.Perm(api.MaxConditions)[:1+r.IntN(8)])
		checkPrint(t, names, x, x.shuffled(r))
	}
	for range 20 {
		x := random(r, api.MaxNodes, []int{0, 7, 63})
		if x.size() > api.MaxNodes {
			t.Fatalf("%d nodes", x.size())
		}
		checkPrint(t, names, x, x.shuffled(r))
	}
}

// P3.1, C3: parentheses stand where the chapter says, and nowhere else.
func TestPrintParentheses(t *testing.T) {
	a, b, c := variable(0), variable(1), variable(2)
	for _, x := range []struct {
		tree *expr
		want string
	}{
		{not(a), "!A"},
		{not(not(a)), "!!A"},
		{not(constant(true)), "!true"},
		{not(and(a, b)), "!(A && B)"},
		{not(or(a, b)), "!(A || B)"},
		{and(a, b), "A && B"},
		{and(not(a), not(b)), "!A && !B"},
		{and(and(a, b), c), "A && B && C"},
		{and(or(a, b), c), "(A || B) && C"},
		{and(a, and(b, c)), "A && (B && C)"},
		{and(a, or(b, c)), "A && (B || C)"},
		{or(and(a, b), c), "A && B || C"},
		{or(or(a, b), c), "A || B || C"},
		{or(a, and(b, c)), "A || B && C"},
		{or(a, or(b, c)), "A || (B || C)"},
		{or(not(a), constant(false)), "!A || false"},
		{not(not(or(a, not(and(b, c))))), "!!(A || !(B && C))"},
		{and(or(a, b), or(b, c)), "(A || B) && (B || C)"},
		{or(and(a, b), and(b, c)), "A && B || B && C"},
		{or(or(a, or(b, c)), and(and(a, b), and(b, c))), "A || (B || C) || A && B && (B && C)"},
	} {
		s, e := formula.Print(abc(), x.tree.postorder())
		expectText(t, "Print", s, e, x.want, api.OK)
	}
}

// P3.1, C3: every condition of the formula needs a name; the other ones do not.
func TestPrintNames(t *testing.T) {
	for v := range api.MaxConditions {
		for n := range api.MaxConditions + 1 {
			names := many()[:n]
			f := and(variable(0), not(variable(v))).postorder()
			s, e := formula.Print(names, f)
			if v < n {
				expectText(t, "Print", s, e, names[0]+" && !"+names[v], api.OK)
			} else {
				expectText(t, "Print", s, e, "", api.ErrFormula)
			}
		}
	}
}

// P3.1, C3: the deepest formulas.
func TestPrintDeep(t *testing.T) {
	s, e := formula.Print(abc(), chain(api.MaxNodes))
	expectText(t, "Print", s, e, strings.Repeat("!", api.MaxNodes-1)+"A", api.OK)
	x := not(variable(1))
	for range 255 {
		x = or(variable(0), x)
	}
	s, e = formula.Print(abc(), x.postorder())
	expectText(t, "Print", s, e, strings.Repeat("A || (", 254)+"A || !B"+strings.Repeat(")", 254), api.OK)
	checkPrint(t, abc(), x, x.postorder())
}
