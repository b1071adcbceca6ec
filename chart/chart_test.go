package chart_test

import (
	"testing"

	"koine/api"
	"koine/diagram"
	"koine/scanner"
)

// P10.1, J1 to J4: the chapter's examples.
func TestExamples(t *testing.T) {
	g := example()
	x := scanOf(g, "a + a")
	want := []api.Span{span(0, 0, 2, all()), span(0, 0, 6, set("A")), span(0, 4, 6, all())}
	expectSpans(t, g, x, want...)
	expectStart(t, x, span(-1, 0, 6, all()))
	expectAccepted(t, g, x, set("A"))
	expectFound(t, want, 0, 2, 6, none())
	expectAccepted(t, g, scanOf(g, "a", "#if A", "+ a", "#end"), all())
}

// expectFound fails unless Find returns a set.
func expectFound(t *testing.T, l []api.Span, left, from, to int, want api.Diagram) {
	t.Helper()
	if got := find(t, l, left, from, to); !diagram.Same(got, want) {
		t.Errorf("Find of %d, %d, %d: %v, want %v", left, from, to, got, want)
	}
}

// J1: sections of a source, in which what follows a word differs.
func TestSections(t *testing.T) {
	g := grammarOf(2, words("a", "b", "c"), "S = a S", "S = b", "T = S c :: !B", "T = S")
	x := scanOf(g, "a", "#if A", "b", "#elif B", "a b", "#else", "c", "#end", "c")
	// The text is "a", "b", "a b", "c", "c".
	expectSpans(t, g, x,
		span(0, 0, 10, set("A || B")), span(1, 0, 10, set("A || B")), span(1, 0, 12, set("A && !B")),
		span(0, 2, 10, set("A")), span(1, 2, 10, set("A")), span(1, 2, 12, set("A && !B")),
		span(0, 4, 10, set("!A && B")), span(1, 4, 10, set("!A && B")),
		span(0, 6, 10, set("!A && B")), span(1, 6, 10, set("!A && B")),
	)
	expectAccepted(t, g, x, none())
	g.Start = 1
	expectAccepted(t, g, x, set("A && !B"))
	expectStart(t, x, span(-1, 0, 12, all()))
}

// J1: words that can be several tokens, in some configurations only.
func TestChoices(t *testing.T) {
	g := grammarOf(2, words("a", "b"), "S = a b", "T = b b", "U = a", "U = T :: A")
	x := api.Scan{Good: all(), End: 9, Lexemes: []api.Lexeme{
		{From: 1, To: 3, If: all(), Choices: []api.Choice{{Token: 0, If: set("A")}, {Token: 1, If: set("B")}}},
		{From: 3, To: 4, If: set("A || B"), Choices: []api.Choice{{Token: 1, If: set("A")}}},
		{From: 5, To: 7, If: set("!B"), Choices: []api.Choice{{Token: 0, If: set("!A && !B")}}},
	}}
	expectSpans(t, g, x,
		span(2, 1, 3, set("A")), span(0, 1, 5, set("A && !B")), span(0, 1, 9, set("A && B")),
		span(1, 1, 9, set("A && B")), span(2, 1, 9, set("A && B")), span(2, 5, 9, set("!A && !B")),
	)
}

// J1: two words at the same offset, in different configurations, with the same word behind them and with different ones.
func TestSameOffset(t *testing.T) {
	g := grammarOf(1, words("a", "b"), "S = a", "S = a b")
	x := api.Scan{Good: all(), End: 6, Lexemes: []api.Lexeme{
		lexeme(0, 1, set("A"), 0), lexeme(0, 3, set("!A"), 0), lexeme(4, 5, all(), 1),
	}}
	expectSpans(t, g, x, span(0, 0, 4, all()), span(0, 0, 6, all()))
	x.Lexemes = append(x.Lexemes[:2:2], lexeme(2, 3, set("A"), 1), lexeme(4, 5, set("!A"), 1))
	expectSpans(t, g, x, span(0, 0, 2, set("A")), span(0, 0, 4, set("!A")), span(0, 0, 6, all()))
}

// J1, J3, J4: a scan without words, and scans without good configurations.
func TestNoWords(t *testing.T) {
	g := grammarOf(2, words("a"), "S = T T", "S = a", "T = :: A", "U = S a")
	g.Family = set("A || B")
	x := scanOf(g, " ")
	if len(x.Lexemes) > 0 || x.End != 2 {
		t.Fatalf("the scan is %v", x)
	}
	expectSpans(t, g, x, span(0, 2, 2, set("A")), span(1, 2, 2, set("A")))
	expectStart(t, x, span(-1, 2, 2, set("A || B")))
	expectAccepted(t, g, x, set("A"))
	expectSpans(t, g, api.Scan{Good: g.Family}, span(0, 0, 0, set("A")), span(1, 0, 0, set("A")))
	expectStart(t, api.Scan{Good: g.Family}, span(-1, 0, 0, g.Family))
	for _, x := range []api.Scan{scanOf(g, "a !"), {Faults: []api.Fault{{If: g.Family}}, End: 1}} {
		if len(x.Faults) != 1 || !diagram.Same(x.Good, none()) {
			t.Fatalf("the scan is %v", x)
		}
		expectSpans(t, g, x)
		expectStart(t, x)
		expectAccepted(t, g, x, none())
	}
	// Some configurations have no words.
	x = scanOf(g, "#if A", "a", "#elif B", "", "#end")
	where := set("A")
	expectSpans(t, g, x, span(0, 0, 0, where), span(1, 0, 0, where), span(0, 0, 3, where), span(2, 0, 3, where), span(0, 3, 3, where), span(1, 3, 3, where))
	expectStart(t, x, span(-1, 0, 3, where), span(-1, 3, 3, set("!A && B")))
	expectAccepted(t, g, x, where)
}

// J1, J4: nonterminals that are nullable, in front of, between and behind others.
func TestNullable(t *testing.T) {
	g := grammarOf(1, words("a", "b"), "S = N a M", "M = N N", "N = :: A", "N = b")
	where := set("A")
	x := scanOf(g, "b a")
	expectSpans(t, g, x,
		span(1, 0, 0, where), span(2, 0, 0, where), span(1, 0, 2, all()), span(2, 0, 2, where), span(0, 0, 4, where),
		span(1, 2, 2, where), span(2, 2, 2, where), span(0, 2, 4, where),
		span(1, 4, 4, where), span(2, 4, 4, where),
	)
	expectAccepted(t, g, x, where)
	expectAccepted(t, g, scanOf(g, "b a b b"), all())
	expectAccepted(t, g, scanOf(g, "a"), where)
	expectAccepted(t, g, scanOf(g, "b b a"), none())
}

// J1, J4: nonterminals whose productions begin or end with themselves, also behind others that are nullable.
func TestRecursion(t *testing.T) {
	for _, lines := range [][]string{
		{"S = a", "S = S a"}, {"S = a", "S = a S"}, {"S = a", "S = S S"}, {"S = a", "S = N S a N", "N =", "N = N b"},
		{"S = T a", "S = a", "T = S"}, {"S = a", "S = a N S N", "N =", "N = b N"},
	} {
		g := grammarOf(0, words("a", "b"), lines...)
		x := textScan(g, manyWords(7))
		list := goodSpans(t, g, x)
		for from := range 7 {
			for to := range 9 {
				want := diagram.Constant(from < to && to != 7)
				expectFound(t, list, 0, from, to, want)
			}
		}
		expectAccepted(t, g, x, all())
	}
}

// J1, J4: the errors, in their order.
func TestErrors(t *testing.T) {
	good := grammarOf(0, words("a"), "S = a S", "S = a")
	invalid := good
	invalid.Start = 7
	cyclic := grammarOf(1, words("a"), "S = T :: A", "T = S N", "N =", "S = a")
	outside := cyclic
	outside.Family = set("!A")
	large := textScan(good, manyWords(2000))
	wrong := large
	wrong.Good = none()
	for i, c := range []struct {
		g    api.Grammar
		x    api.Scan
		want api.Errno
	}{
		{invalid, wrong, api.ErrSymbol},
		{invalid, large, api.ErrSymbol},
		{cyclic, wrong, api.ErrCycle},
		{cyclic, api.Scan{Good: all(), End: 1}, api.ErrCycle},
		{good, wrong, api.ErrArg},
		{good, large, api.ErrLarge},
		{good, api.Scan{Good: all(), End: -1}, api.ErrArg},
		{good, api.Scan{Good: api.Diagram{Root: 2}, End: 1}, api.ErrArg},
		{good, api.Scan{Good: all(), End: 1, Lexemes: []api.Lexeme{lexeme(0, 1, api.Diagram{Root: 5})}}, api.ErrArg},
		{good, api.Scan{Good: all(), End: 1, Lexemes: []api.Lexeme{lexeme(0, 1, none())}}, api.ErrArg},
		{good, api.Scan{Good: all(), End: 1, Lexemes: []api.Lexeme{lexeme(0, 2, all())}}, api.ErrArg},
		{good, api.Scan{Good: all(), End: 2, Lexemes: []api.Lexeme{lexeme(1, 2, all()), lexeme(0, 1, all())}}, api.ErrArg},
		{good, api.Scan{Good: all(), End: 1, Lexemes: []api.Lexeme{lexeme(0, 1, all(), 1)}}, api.ErrArg},
		{outside, scanOf(outside, "a"), api.OK},
	} {
		if _, e := spans(t, c.g, c.x); e != c.want {
			t.Errorf("case %d: Spans returns error %d, want %d", i, e, c.want)
		}
		if _, e := accepted(t, c.g, c.x); e != c.want {
			t.Errorf("case %d: Accepted returns error %d, want %d", i, e, c.want)
		}
		if e := scanner.Check(c.g, c.x); c.want != api.ErrLarge && e != c.want {
			t.Errorf("case %d: Check returns error %d, want %d", i, e, c.want)
		}
	}
}

// J2: elements that a list has more than once, or not at all, and a list in no order.
func TestFind(t *testing.T) {
	list := []api.Span{
		span(3, 5, 9, set("A && B")), span(1, 2, 3, set("A")), span(1, 2, 3, set("B")), span(-1, 0, 0, set("B")), span(2, 1, 3, none()), span(2, 1, 3, all()),
	}
	for _, c := range []struct {
		left, from, to int
		want           api.Diagram
	}{
		{3, 5, 9, set("A && B")}, {1, 2, 3, set("A")}, {-1, 0, 0, set("B")}, {2, 1, 3, none()},
		{1, 2, 4, none()}, {1, 3, 3, none()}, {0, 2, 3, none()}, {5, 9, 3, none()}, {-1, -1, -1, none()},
	} {
		expectFound(t, list, c.left, c.from, c.to, c.want)
	}
	expectFound(t, nil, 0, 0, 0, none())
}

// J2, R8: an element whose set is not valid.
func TestFindInvalid(t *testing.T) {
	list := []api.Span{span(0, 0, 1, api.Diagram{Root: 2}), span(0, 0, 1, all()), span(0, 1, 2, set("A"))}
	expectFound(t, list, 0, 0, 1, none())
	expectFound(t, list, 0, 1, 2, set("A"))
}
