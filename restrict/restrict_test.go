package restrict_test

import (
	"math"
	"slices"
	"testing"

	"koine/api"
)

// TestExampleAlign is example 1 of the chapter (N1, N2).
func TestExampleAlign(t *testing.T) {
	g := blocks()
	for text, want := range map[string][]api.Violation{"x\nx": nil, "x x": {lays(0, 0)}} {
		x := treeOf(g, 0, []int{1, 0, 2, 2}, text)
		expectViolations(t, g, 0, plainOf(g, 0, text), x, want...)
	}
}

// TestExampleIndent is example 2 of the chapter (N1, N2).
func TestExampleIndent(t *testing.T) {
	g := blocks()
	for text, want := range map[string][]api.Violation{"if x\n  x": nil, "if x\nx": {lays(1, 0)}} {
		x := treeOf(g, 0, []int{0, 3, 0, 2}, text)
		expectViolations(t, g, 0, plainOf(g, 0, text), x, want...)
	}
}

// TestExampleFollow is example 3 of the chapter (N1, N2).
func TestExampleFollow(t *testing.T) {
	g := blocks()
	text := "x\nif x\n x"
	expectViolations(t, g, 0, plainOf(g, 0, text), treeOf(g, 0, []int{1, 0, 2, 3, 0, 2}, text), follows(2, 0))
}

// twoLists returns a grammar of two lists of x, with a semicolon between them, and some constraints between these three children.
func twoLists(constraints ...api.Constraint) api.Grammar {
	g := grammarOf(0, words("x", ";"), "S = L ; L", "L = ", "L = L x")
	g.Productions[0].Layout = constraints
	return g
}

// expectLayout fails unless the only tree of a text violates a constraint of its root, or keeps it.
func expectLayout(t *testing.T, c api.Constraint, text string, kept bool) {
	t.Helper()
	g := twoLists(c)
	list := treesOf(g, 0, text)
	if len(list) != 1 {
		t.Fatalf("%q has %d trees", text, len(list))
	}
	var want []api.Violation
	if !kept {
		want = []api.Violation{lays(0, 0)}
	}
	expectViolations(t, g, 0, plainOf(g, 0, text), list[0], want...)
	if t.Failed() {
		t.Fatalf("%q with %v", text, c)
	}
}

// TestOffside has children all of whose words are to the right of the first one, or not (N1).
func TestOffside(t *testing.T) {
	for text, kept := range map[string]bool{
		"x x ; x":                 true,
		"x\n x;":                  true,
		"x\nx;":                   false,
		" x\nx;":                  false,
		" x\n x;":                 false,
		"   x\n     x\n   x x;":   false,
		"   x\n     x\n    x x;":  true,
		"  x x\n   x\n x\n    x;": false,
		// The words of other children play no part.
		"  x x\n;":           true,
		"  x\n;\nx":          true,
		"  x\n ;\nx x\nx\nx": true,
		// A word that is not the first on its line may be to the left.
		"     x\n{} x;":           true,
		"     x\n{} x\n    x;":    false,
		"     x {\n} x\n      x;": true,
		"     x\n  {} x;":         true,
		"     x\n  {\n  } x;":     true,
		// The first word of the child need not be the first on its line.
		"{} x\n x;":     false,
		"{} x\n   x;":   false,
		"{} x\n    x;":  true,
		"{}\n x\n  x ;": true,
		// A child without words, or with a single one, keeps the constraint.
		";x\nx": true,
		"\n;":   true,
		"x;":    true,
	} {
		expectLayout(t, offside(0), text, kept)
	}
	for text, kept := range map[string]bool{"x\nx;\nx\n x": true, " ; x\n  x": false, "; x\n   x": true, "; x\n  x": false, "  x;": true, "x;\n x\n  x\nx": false} {
		expectLayout(t, offside(2), text, kept)
	}
	expectLayout(t, offside(1), "x\n ;\nx", true)
}

// TestAlign has children whose first words have the same column, or not (N1).
func TestAlign(t *testing.T) {
	for text, kept := range map[string]bool{
		"x;x":           false,
		"x x\n;\nx x":   true,
		"x x\nx\n;x":    false,
		" x\nx;\n x\nx": true,
		" x\nx;\nx\n x": false,
		"x\n; x":        false,
		"  x\n; x":      true,
		"{} x\n;  x":    true,
		// Without words, a child keeps every constraint.
		"; x": true,
		" x;": true,
		";":   true,
	} {
		expectLayout(t, align(0, 2), text, kept)
		expectLayout(t, align(2, 0), text, kept)
	}
	for text, kept := range map[string]bool{"x x;": false, "x x\n;": true, " x\n;": false, " ;": true} {
		expectLayout(t, align(0, 1), text, kept)
		expectLayout(t, align(1, 0), text, kept)
	}
	expectLayout(t, align(0, 0), "x x\n x;", true)
}

// TestIndent has children the second of which begins to the right of the first one, or not (N1).
func TestIndent(t *testing.T) {
	for text, kept := range map[string]bool{
		"x;x":            true,
		"x\n;\n x":       true,
		"x\n;\nx":        false,
		"  x\n;\n x":     false,
		"x\n  x;\n x\nx": true,
		"  x\nx;\n x x":  false,
		" {} x\n;  {}x":  true,
		" {} x\n;   x":   false,
		"; x":            true,
		"  x\n;":         true,
		";":              true,
	} {
		expectLayout(t, indent(0, 2), text, kept)
	}
	for text, kept := range map[string]bool{"x;x": false, "x\n;\n x": false, "x\n;\nx": false, "  x\n;\n x": true, "; x": true, "  x\n;": true} {
		expectLayout(t, indent(2, 0), text, kept)
	}
	expectLayout(t, indent(0, 1), "x\n;", false)
	expectLayout(t, indent(0, 1), "x\n ;", true)
	expectLayout(t, indent(2, 2), "x;x\n x", false)
	expectLayout(t, indent(2, 2), "x;", true)
}

// TestSameLine has children of which the last word and the first one are on the same line, or on lines where they have the same columns or different ones (N1).
func TestSameLine(t *testing.T) {
	for text, kept := range map[string]bool{
		"x;x":                true,
		"x\nx;x\nx":          true,
		"x x\n;x":            false,
		"x;\nx":              false,
		"   x;\nx":           false,
		"x;\n   x":           false,
		"x x;\n\n\n\nx":      false,
		" x\n;\n x":          false,
		"x\n{};{}x":          false,
		"{\n} x ; {}  x":     true,
		"x { \n} ; x":        false,
		"x\n x;\n x x":       false,
		"; x":                true,
		"x\n;":               true,
		";":                  true,
		"\n\n\n    x ;    x": true,
	} {
		expectLayout(t, sameLine(0, 2), text, kept)
	}
	for text, kept := range map[string]bool{"x;x": true, "x\nx;x": false, "x;x\nx": false, "x;\nx": false, "x x;x x": true, "; x": true} {
		expectLayout(t, sameLine(2, 0), text, kept)
	}
	for text, kept := range map[string]bool{"x\n;": false, "x;": true, "x\nx;": true, ";": true} {
		expectLayout(t, sameLine(0, 1), text, kept)
	}
	for text, kept := range map[string]bool{"x x;": true, "x\nx;": false, "x;": true, ";": true} {
		expectLayout(t, sameLine(0, 0), text, kept)
	}
}

// TestColumnsOfLines has words that are on the same line or not by their columns, whatever their offsets are, also if a line would begin at an offset beyond the integers (N1).
func TestColumnsOfLines(t *testing.T) {
	g := twoLists(sameLine(0, 2))
	x := node(0, 0, 9, node(2, 0, 3, node(1, 0, 0), leaf(0, 0, 1)), leaf(1, 3, 4), node(2, 6, 9, node(1, 6, 6), leaf(0, 6, 7)))
	p := api.Plain{End: 9, Stuck: -1, Words: []api.Word{{To: 1, Tokens: []int{0}}, {From: 3, To: 4, Tokens: []int{1}}, {From: 6, To: 7, Tokens: []int{0}}}}
	for _, test := range []struct {
		a, b int
		kept bool
	}{
		{0, 6, true}, {-6, 0, true}, {0, 0, false}, {6, 0, false}, {0, 5, false}, {0, -6, false}, {1, 6, false}, {-3, 3, true},
		{math.MaxInt64 - 6, math.MaxInt64, true},
		{math.MaxInt64 - 5, math.MaxInt64, false},
		{math.MinInt64, math.MinInt64 + 6, true},
		// The columns differ by 6 less than 2 to the power of 64.
		{math.MaxInt64, math.MinInt64 + 5, false},
		{math.MaxInt64 - 2, math.MinInt64 + 3, false},
		{math.MinInt64, math.MaxInt64, false},
		{math.MinInt64 + 5, math.MaxInt64, false},
	} {
		p.Words[0].Column, p.Words[2].Column = test.a, test.b
		var want []api.Violation
		if !test.kept {
			want = []api.Violation{lays(0, 0)}
		}
		expectViolations(t, g, 0, p, x, want...)
		if t.Failed() {
			t.Fatalf("the columns %d and %d", test.a, test.b)
		}
	}
	// The other constraints compare the columns, and not their difference.
	p.Words[0].Column, p.Words[2].Column, p.Words[2].First = math.MaxInt64, math.MinInt64, true
	expectViolations(t, twoLists(align(0, 2), indent(0, 2), indent(2, 0)), 0, p, x, lays(0, 0), lays(0, 1))
}

// TestFollow has nodes before and behind which there are words with and without tokens of a filter (N1).
func TestFollow(t *testing.T) {
	g := twoLists()
	x := treesOf(g, 0, "x x ; x")[0]
	p := plainOf(g, 0, "x x ; x")
	// The lists are the nodes 1, 2 and 3, which ends before the first word, and 7 and 8, which ends before the last one.
	for _, test := range []struct {
		filter api.Filter
		want   []api.Violation
	}{
		{follow(1, 0), []api.Violation{follows(2, 0), follows(3, 0), follows(8, 0)}},
		{follow(1, 1), []api.Violation{follows(1, 0)}},
		{follow(1, 0, 1), []api.Violation{follows(1, 0), follows(2, 0), follows(3, 0), follows(8, 0)}},
		{precede(1, 0), nil},
		{precede(1, 1), []api.Violation{precedes(7, 0), precedes(8, 0)}},
		{precede(1, 0, 1), []api.Violation{precedes(7, 0), precedes(8, 0)}},
		// Nothing is before or behind the root.
		{follow(0, 0, 1), nil},
		{precede(0, 0, 1), nil},
	} {
		g.Filters = []api.Filter{test.filter}
		expectViolations(t, g, 0, p, x, test.want...)
		if t.Failed() {
			t.Fatalf("the filter %v", test.filter)
		}
	}
}

// TestEnds has nodes at the beginning and at the end of a text, with words and without (N1).
func TestEnds(t *testing.T) {
	g := twoLists()
	g.Filters = []api.Filter{follow(1, 0, 1), precede(1, 0, 1), follow(0, 0, 1), precede(0, 0, 1)}
	for text, want := range map[string][]api.Violation{
		";":     {follows(1, 0), precedes(3, 1)},
		"x;":    {follows(1, 0), follows(2, 0), precedes(5, 1)},
		";x":    {follows(1, 0), follows(4, 0), precedes(3, 1), precedes(4, 1)},
		"{};{}": {follows(1, 0), precedes(3, 1)},
	} {
		expectViolations(t, g, 0, plainOf(g, 0, text), treesOf(g, 0, text)[0], want...)
	}
}

// TestRemarks has remarks between words, which are no words (N1).
func TestRemarks(t *testing.T) {
	g := twoLists(offside(0), align(0, 2), indent(0, 2), sameLine(0, 1))
	g.Filters = []api.Filter{follow(1, 1), precede(1, 0)}
	text := "{a} x\n     {}\n{b}\n;{c} x {d}"
	expectViolations(t, g, 0, plainOf(g, 0, text), treesOf(g, 0, text)[0], follows(1, 0), lays(0, 1), lays(0, 3))
}

// TestSeveralTokens has words that can be several tokens, of which a tree has one (N1).
func TestSeveralTokens(t *testing.T) {
	tokens := append(words("x", ";"), api.Token{Name: "name", Pattern: api.Pattern{{Kind: api.PatternRange, Lo: 'a', Hi: 'z'}}, Sample: "a", If: all()})
	g := grammarOf(0, tokens, "S = L L", "L = x", "L = name", "L = ; L")
	p := plainOf(g, 0, "; x x")
	x := node(0, 0, 6, node(3, 0, 4, leaf(1, 0, 1), node(1, 2, 4, leaf(0, 2, 3))), node(2, 4, 6, leaf(5, 4, 5)))
	for i := range p.Words[1:] {
		if !slices.Equal(p.Words[i+1].Tokens, []int{0, 5}) {
			t.Fatalf("the words %v", p.Words)
		}
	}
	for _, tokens := range [][]int{{0}, {5}, {0, 5}, {0, 1, 5}} {
		g.Filters = []api.Filter{follow(1, tokens...), precede(1, tokens...)}
		want := []api.Violation{follows(1, 0), follows(3, 0), precedes(3, 1), precedes(5, 1)}
		if !slices.Contains(tokens, 1) {
			want = slices.Delete(want, 2, 3)
		}
		expectViolations(t, g, 0, p, x, want...)
	}
	// Filters of one token each, the later ones for the first token of the words.
	g.Filters = []api.Filter{follow(1, 5), follow(0, 0), follow(1, 0, 5), follow(1, 0), follow(1, 1)}
	expectViolations(t, g, 0, p, x, follows(1, 0), follows(1, 2), follows(1, 3), follows(3, 0), follows(3, 2), follows(3, 3))
	// A word can be a token that is not present.
	g.Tokens[1].If, g.Tokens[0].If = none(), none()
	p = plainOf(g, 0, "z z")
	p.Words[0].Tokens, p.Words[1].Tokens = []int{0, 1, 5}, []int{1, 5}
	g.Filters = []api.Filter{follow(1, 0), follow(1, 1), precede(1, 0)}
	expectViolations(t, g, 0, p, node(0, 0, 4, node(2, 0, 2, leaf(5, 0, 1)), node(2, 2, 4, leaf(5, 2, 3))), follows(1, 1), precedes(3, 2))
}

// TestNonterminals has filters for nonterminals between the same gaps (N1).
func TestNonterminals(t *testing.T) {
	g := grammarOf(0, words("x", "y"), "S = T y", "T = U", "U = V V", "V = x", "V = ")
	text := "x y"
	x := treeOf(g, 0, []int{0, 1, 2, 3, 4}, text)
	p := plainOf(g, 0, text)
	for left, want := range [][]api.Violation{nil, {follows(1, 0)}, {follows(2, 0)}, {follows(3, 0), follows(5, 0)}} {
		g.Filters = []api.Filter{follow(left, 1)}
		expectViolations(t, g, 0, p, x, want...)
	}
	for left, want := range [][]api.Violation{nil, nil, nil, {precedes(5, 0)}} {
		g.Filters = []api.Filter{precede(left, 0)}
		expectViolations(t, g, 0, p, x, want...)
	}
}

// TestPresence has filters that depend on the configuration (N1).
func TestPresence(t *testing.T) {
	g := twoLists(align(0, 2))
	g.Conditions, g.Family = names(2), set("A || B")
	g.Filters = []api.Filter{follow(1, 1), follow(1, 1), precede(1, 1), follow(1, 1), precede(1, 1)}
	for i, where := range []string{"A", "B", "!A", "false", "A && B"} {
		g.Filters[i].If = set(where)
	}
	text := "x;x"
	x := treesOf(g, 1, text)[0]
	p := plainOf(g, 1, text)
	expectViolations(t, g, 1, p, x, follows(1, 0), lays(0, 0))
	expectViolations(t, g, 2, p, x, follows(1, 1), precedes(5, 2), precedes(6, 2), lays(0, 0))
	expectViolations(t, g, 3, p, x, follows(1, 0), follows(1, 1), precedes(5, 4), precedes(6, 4), lays(0, 0))
}

// TestSeveral has nodes that violate several filters and constraints, in the order of Step, Node and Rule (N1).
func TestSeveral(t *testing.T) {
	g := grammarOf(0, words("x", ";"), "S = L ; L", "L = x", "L = x L")
	g.Productions[0].Layout = []api.Constraint{sameLine(2, 0), offside(2), align(0, 1), indent(0, 2), offside(0), indent(2, 2), align(1, 2)}
	g.Productions[2].Layout = []api.Constraint{sameLine(0, 1), indent(0, 1), align(0, 1)}
	g.Filters = []api.Filter{precede(1, 0, 1), follow(1, 0), follow(1, 0, 1), precede(1, 1), {Kind: api.FilterChild, Parent: 2, At: 1, Child: 1, If: all()}, follow(1, 1), precede(1, 0)}
	text := "x x;\n x\nx"
	// The nodes 1 and 6 are the lists, 3 and 8 the lists in them.
	expectViolations(t, g, 0, plainOf(g, 0, text), treesOf(g, 0, text)[0],
		follows(1, 2), follows(1, 5), follows(3, 2), follows(3, 5),
		precedes(3, 0), precedes(3, 6), precedes(6, 0), precedes(6, 3), precedes(8, 0), precedes(8, 6),
		lays(0, 0), lays(0, 1), lays(0, 2), lays(0, 5), lays(0, 6), lays(1, 2), lays(6, 0), lays(6, 1), lays(6, 2))
}

// TestOtherFilters has filters of the other kinds, which are not violated here (N1).
func TestOtherFilters(t *testing.T) {
	g := grammarOf(0, words("x", "if"), "B = I", "B = B I", "I = x", "I = if x B")
	g.Tokens = append(g.Tokens, api.Token{Name: "n", Pattern: api.Pattern{{Kind: api.PatternRange, Lo: 'a', Hi: 'z'}}, Sample: "n", If: all()})
	g.Filters = []api.Filter{
		{Kind: api.FilterChild, Parent: 0, At: 0, Child: 2, If: all()},
		{Kind: api.FilterSpine, Parent: 1, At: 1, Child: 2, If: all()},
		{Kind: api.FilterReserve, Token: 5, Tokens: []int{0}, If: all()},
	}
	for _, x := range treesOf(g, 0, "x if x x") {
		expectViolations(t, g, 0, plainOf(g, 0, "x if x x"), x)
	}
	// The numbers of filters count those of all kinds.
	g.Filters = append(g.Filters, follow(1, 1))
	expectViolations(t, g, 0, plainOf(g, 0, "x if x x"), treeOf(g, 0, []int{1, 0, 2, 3, 0, 2}, "x if x x"), follows(2, 3))
}

// TestNoWords has texts without words (N1, N2).
func TestNoWords(t *testing.T) {
	g := grammarOf(0, words("x"), "S = L L L", "L = ", "L = L x")
	g.Productions[0].Layout = []api.Constraint{offside(0), align(0, 1), indent(1, 2), indent(2, 1), sameLine(2, 0)}
	g.Filters = []api.Filter{follow(0, 0), follow(1, 0), precede(0, 0), precede(1, 0)}
	for _, text := range []string{"", "  ", "{a}\n{b}"} {
		p := plainOf(g, 0, text)
		x := node(0, p.End, p.End, node(1, p.End, p.End), node(1, p.End, p.End), node(1, p.End, p.End))
		expectViolations(t, g, 0, p, x)
	}
	expectViolations(t, g, 0, api.Plain{Stuck: -1}, node(0, 0, 0, node(1, 0, 0), node(1, 0, 0), node(1, 0, 0)))
}
