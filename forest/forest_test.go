package forest_test

import (
	"testing"

	"koine/api"
	"koine/diagram"
	"koine/forest"
	"koine/scanner"
)

// sum returns the raw forest of the chapter's first example.
func sum() api.Forest {
	a := set("A")
	return api.Forest{
		Nodes: []api.ForestNode{
			node(0, 0, 2, alternative(a, 0, leaf(0, 0, 1))),
			node(0, 0, 6, alternative(a, 1, kid(0, 0, 2), leaf(1, 2, 3), kid(2, 4, 6))),
			node(0, 4, 6, alternative(a, 0, leaf(0, 4, 5))),
		},
		Roots: []api.Root{root(1, a)},
	}
}

// one returns the tree of a word of the example, and plus that of a sum.
func one(from, to int) api.Tree { return branch(0, from, to, word(0, from, from+1)) }

func plus(from, at, to int, left, right api.Tree) api.Tree {
	return branch(1, from, to, left, word(1, at, at+1), right)
}

// P11.1, K1 to K5: the chapter's examples.
func TestExamples(t *testing.T) {
	g := example()
	f := built(t, g, scanOf(g, "a + a"))
	expectForest(t, g, scanOf(g, "a + a"), sum())
	expectTrees(t, f, 1, plus(0, 2, 6, one(0, 2), one(4, 6)))
	expectTrees(t, f, 0)
	expectWhere(t, f, set("A"), set("A"), set("A"))
	if e := check(t, g, f); e != api.OK {
		t.Errorf("Check: error %d", e)
	}
	f = built(t, g, scanOf(g, "a + a + a"))
	expectTrees(t, f, 1,
		plus(0, 2, 10, one(0, 2), plus(4, 6, 10, one(4, 6), one(8, 10))),
		plus(0, 6, 10, plus(0, 2, 6, one(0, 2), one(4, 6)), one(8, 10)),
	)
	expectTrees(t, f, 0)
}

// K1: sections of a source, in which what follows a word differs, and a root for each beginning.
func TestSections(t *testing.T) {
	g := grammarOf(2, words("a", "b"), "S = a S", "S = b :: B", "S = a :: !B")
	x := scanOf(g, "#if A", "a", "#end", "a", "b")
	// The text is "a", "a", "b".
	a, b := set("A && B"), set("B")
	expectForest(t, g, x, api.Forest{
		Nodes: []api.ForestNode{
			node(0, 0, 6, alternative(a, 0, leaf(0, 0, 1), kid(1, 2, 6))),
			node(0, 2, 6, alternative(b, 0, leaf(0, 2, 3), kid(2, 4, 6))),
			node(0, 4, 6, alternative(b, 1, leaf(1, 4, 5))),
		},
		Roots: []api.Root{root(0, a), root(1, set("B && !A"))},
	})
	x = scanOf(g, "a", "#if A", "a", "#else", "b", "#end")
	b, c := set("!A && B"), set("A && !B")
	expectForest(t, g, x, api.Forest{
		Nodes: []api.ForestNode{
			node(0, 0, 6, alternative(c, 0, leaf(0, 0, 1), kid(1, 2, 6)), alternative(b, 0, leaf(0, 0, 1), kid(2, 4, 6))),
			node(0, 2, 6, alternative(c, 2, leaf(0, 2, 3))),
			node(0, 4, 6, alternative(b, 1, leaf(1, 4, 5))),
		},
		Roots: []api.Root{root(0, set("A && !B || !A && B"))},
	})
}

// K1: words that can be several tokens, two words at one offset, and what is behind a word depends on the configuration.
func TestChoices(t *testing.T) {
	g := grammarOf(2, words("a", "b"), "S = a T", "S = b T", "T = a", "T = b b", "T = :: B")
	g.Family = set("A || B")
	x := api.Scan{Good: g.Family, End: 9, Lexemes: []api.Lexeme{
		lexeme(1, 2, set("!A && B"), 0), lexeme(1, 3, set("A"), 0, 1),
		{From: 4, To: 5, If: all(), Choices: []api.Choice{{Token: 0, If: set("A")}, {Token: 1, If: set("B")}}},
		lexeme(7, 9, set("B && !A"), 1),
	}}
	x.Lexemes[2].If = x.Good
	x.Lexemes[2].Choices[1].If = set("B")
	both, only := set("A"), set("!A && B")
	expectForest(t, g, x, api.Forest{
		Nodes: []api.ForestNode{
			node(0, 1, 9, alternative(only, 0, leaf(0, 1, 2), kid(1, 4, 9)), alternative(both, 0, leaf(0, 1, 3), kid(1, 4, 9)), alternative(both, 1, leaf(1, 1, 3), kid(1, 4, 9))),
			node(1, 4, 9, alternative(both, 2, leaf(0, 4, 5)), alternative(only, 3, leaf(1, 4, 5), leaf(1, 7, 9))),
		},
		Roots: []api.Root{root(0, x.Good)},
	})
	// The same word is followed by different gaps.
	g = grammarOf(1, words("a", "b"), "S = a T", "T = b", "T = b b :: A")
	x = api.Scan{Good: all(), End: 5, Lexemes: []api.Lexeme{lexeme(0, 1, all(), 0), lexeme(1, 2, set("A"), 1), lexeme(3, 4, all(), 1)}}
	expectForest(t, g, x, api.Forest{
		Nodes: []api.ForestNode{
			node(0, 0, 5, alternative(set("A"), 0, leaf(0, 0, 1), kid(1, 1, 5)), alternative(set("!A"), 0, leaf(0, 0, 1), kid(2, 3, 5))),
			node(1, 1, 5, alternative(set("A"), 2, leaf(1, 1, 2), leaf(1, 3, 4))),
			node(1, 3, 5, alternative(set("!A"), 1, leaf(1, 3, 4))),
		},
		Roots: []api.Root{root(0, all())},
	})
}

// K1: scans without words, and scans without good configurations.
func TestNoWords(t *testing.T) {
	g := grammarOf(2, words("a"), "S = T T", "S = a", "T = :: A", "U = S a")
	g.Family = set("A || B")
	where := set("A")
	empty := api.Forest{
		Nodes: []api.ForestNode{node(0, 2, 2, alternative(where, 0, kid(1, 2, 2), kid(1, 2, 2))), node(1, 2, 2, alternative(where, 2))},
		Roots: []api.Root{root(0, where)},
	}
	expectForest(t, g, scanOf(g, " "), empty)
	expectTrees(t, empty, 1, branch(0, 2, 2, branch(2, 2, 2), branch(2, 2, 2)))
	expectTrees(t, empty, 2)
	f := built(t, g, api.Scan{Good: g.Family})
	expectTrees(t, f, 3, branch(0, 0, 0, branch(2, 0, 0), branch(2, 0, 0)))
	for _, x := range []api.Scan{scanOf(g, "a !"), {Faults: []api.Fault{{If: g.Family}}, End: 1}, {Good: set("B && !A"), Faults: []api.Fault{{If: set("A")}}, End: 1}, scanOf(g, "a a")} {
		expectForest(t, g, x, api.Forest{})
		if e := check(t, g, built(t, g, x)); e != api.OK {
			t.Errorf("Check: error %d", e)
		}
	}
	// Some configurations have no words.
	f = built(t, g, scanOf(g, "#if A", "a", "#elif B", "", "#end"))
	expectTrees(t, f, 1, branch(1, 0, 3, word(0, 0, 1)))
	expectTrees(t, f, 2)
	expectTrees(t, f, 0)
	g.Productions[2].If = all()
	f = built(t, g, scanOf(g, "#if A", "a", "#elif B", "", "#end"))
	expectTrees(t, f, 2, branch(0, 3, 3, branch(2, 3, 3), branch(2, 3, 3)))
	expectTrees(t, f, 0)
}

// K1: nonterminals that derive the empty sequence, in front of, between and behind others.
func TestNullable(t *testing.T) {
	g := grammarOf(1, words("a", "b"), "S = N S N :: A", "S = N a N", "N = b", "N = M M :: !A", "M = :: !A")
	nothing := func(at int) api.Tree { return branch(3, at, at, branch(4, at, at), branch(4, at, at)) }
	f := built(t, g, scanOf(g, "a"))
	expectTrees(t, f, 0, branch(1, 0, 2, nothing(0), word(0, 0, 1), nothing(2)))
	expectTrees(t, f, 1)
	f = built(t, g, scanOf(g, "b a"))
	expectTrees(t, f, 0, branch(1, 0, 4, branch(2, 0, 2, word(1, 0, 1)), word(0, 2, 3), nothing(4)))
	f = built(t, g, scanOf(g, "b b a b b"))
	b := func(from int) api.Tree { return branch(2, from, from+2, word(1, from, from+1)) }
	expectTrees(t, f, 1, branch(0, 0, 10, b(0), branch(1, 2, 8, b(2), word(0, 4, 5), b(6)), b(8)))
	expectTrees(t, f, 0)
	// Each of several symbols can be the one that derives something.
	g = grammarOf(0, words("a"), "S = N N N", "N = a", "N =")
	a := func(from int, to int) api.Tree { return branch(1, from, to, word(0, from, from+1)) }
	e := func(at int) api.Tree { return branch(2, at, at) }
	f = built(t, g, scanOf(g, "a"))
	expectTrees(t, f, 0, branch(0, 0, 2, e(0), e(0), a(0, 2)), branch(0, 0, 2, e(0), a(0, 2), e(2)), branch(0, 0, 2, a(0, 2), e(2), e(2)))
	f = built(t, g, scanOf(g, "a a"))
	expectTrees(t, f, 0, branch(0, 0, 4, e(0), a(0, 2), a(2, 4)), branch(0, 0, 4, a(0, 2), e(2), a(2, 4)), branch(0, 0, 4, a(0, 2), a(2, 4), e(4)))
}

// K1: nonterminals between the same gaps that lead to one another, in opposite directions in different configurations.
func TestUnits(t *testing.T) {
	g := grammarOf(2, words("a"), "S = T", "T = U N :: A", "U = N V :: A", "U = T :: !A", "V = U :: !A && B", "T = V :: B && !A", "V = a", "N =", "T = a a :: B", "U = a :: A")
	// With A: S, T, U, V; without A, V and T can lead to each other only through U.
	g.Productions[4].If = none()
	x := scanOf(g, "a")
	want, ok := forestOf(g, x, 100)
	if !ok || len(want.Nodes) < 5 {
		t.Fatalf("the forest is %v", want)
	}
	expectForest(t, g, x, want)
	f := built(t, g, x)
	n := func(at int) api.Tree { return branch(7, at, at) }
	v := branch(6, 0, 2, word(0, 0, 1))
	expectTrees(t, f, 1,
		branch(0, 0, 2, branch(1, 0, 2, branch(2, 0, 2, n(0), v), n(2))),
		branch(0, 0, 2, branch(1, 0, 2, branch(9, 0, 2, word(0, 0, 1)), n(2))),
	)
	expectTrees(t, f, 0)
	expectTrees(t, f, 2, branch(0, 0, 2, branch(5, 0, 2, v)))
	g.Start = 2
	f = built(t, g, x)
	expectTrees(t, f, 2, branch(3, 0, 2, branch(5, 0, 2, v)))
	expectTrees(t, f, 1, branch(2, 0, 2, n(0), v), branch(9, 0, 2, word(0, 0, 1)))
}

// K1: the errors, in their order.
func TestBuildErrors(t *testing.T) {
	good := grammarOf(0, words("a"), "S = a S", "S = a")
	invalid := good
	invalid.Start = 7
	cyclic := grammarOf(1, words("a"), "S = T :: A", "T = S N", "N =", "S = a")
	outside := cyclic
	outside.Family = set("!A")
	large := textScan(good, manyWords(2000))
	wrong := large
	wrong.Good = none()
	for i, c := range []struct {
		g    api.Grammar
		x    api.Scan
		want api.Errno
	}{
		{invalid, wrong, api.ErrSymbol},
		{invalid, large, api.ErrSymbol},
		{cyclic, wrong, api.ErrCycle},
		{cyclic, api.Scan{Good: all(), End: 1}, api.ErrCycle},
		{good, wrong, api.ErrArg},
		{good, large, api.ErrLarge},
		{good, api.Scan{Good: all(), End: -1}, api.ErrArg},
		{good, api.Scan{Good: api.Diagram{Root: 2}, End: 1}, api.ErrArg},
		{good, api.Scan{Good: all(), End: 1, Lexemes: []api.Lexeme{lexeme(0, 1, api.Diagram{Root: 5})}}, api.ErrArg},
		{good, api.Scan{Good: all(), End: 1, Lexemes: []api.Lexeme{lexeme(0, 1, none())}}, api.ErrArg},
		{good, api.Scan{Good: all(), End: 1, Lexemes: []api.Lexeme{lexeme(0, 2, all())}}, api.ErrArg},
		{good, api.Scan{Good: all(), End: 2, Lexemes: []api.Lexeme{lexeme(1, 2, all()), lexeme(0, 1, all())}}, api.ErrArg},
		{good, api.Scan{Good: all(), End: 1, Lexemes: []api.Lexeme{lexeme(0, 1, all(), 1)}}, api.ErrArg},
		{good, api.Scan{Good: all(), End: 1}, api.OK},
		{outside, scanOf(outside, "a"), api.OK},
	} {
		if _, e := build(t, c.g, c.x); e != c.want {
			t.Errorf("case %d: error %d, want %d", i, e, c.want)
		}
		if e := scanner.Check(c.g, c.x); c.want != api.ErrLarge && e != c.want {
			t.Errorf("case %d: the scan has error %d, want %d", i, e, c.want)
		}
	}
}

// K3, K4: configurations outside of Good, and outside of the family.
func TestOtherConfigurations(t *testing.T) {
	g := grammarOf(2, words("a", "!"), "S = a", "S = S S :: A")
	g.Family = set("A || B")
	g.Tokens[1].If = set("B")
	x := scanOf(g, "a", "#if A", "a !", "#end")
	if !diagram.Same(x.Good, set("B")) {
		t.Fatalf("good are %v", x.Good)
	}
	f := built(t, g, x)
	expectForest(t, g, x, api.Forest{
		Nodes: []api.ForestNode{node(0, 0, 6, alternative(set("!A && B"), 0, leaf(0, 0, 1)))},
		Roots: []api.Root{root(0, set("!A && B"))},
	})
	for _, c := range []api.Config{0, 1, 3, 4, 5, 1 << 63} {
		expectTrees(t, f, c)
		if s := selected(t, f, c); len(s.Nodes) > 0 || len(s.Roots) > 0 {
			t.Errorf("configuration %d: %v", c, s)
		}
	}
	// Bits of other conditions do not matter: the sets decide.
	for _, c := range []api.Config{2, 2 | 1<<2, 2 | 1<<63} {
		expectTrees(t, f, c, branch(0, 0, 6, word(0, 0, 1)))
		if s := selected(t, f, c); len(s.Nodes) != 1 || !diagram.Same(s.Nodes[0].Alternatives[0].If, all()) || !diagram.Same(s.Roots[0].If, all()) {
			t.Errorf("configuration %d: %v", c, s)
		}
	}
	if f, e := forest.Build(g, x); e != api.OK || len(f.Nodes) != 1 {
		t.Errorf("Build again: %v, error %d", f, e)
	}
}
