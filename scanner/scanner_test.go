package scanner_test

import (
	"strconv"
	"strings"
	"testing"

	"koine/api"
	"koine/facts"
	"koine/source"
)

// word returns a word with a column that is given, and tokens.
func word(from, to, column int, first bool, tokens ...int) api.Word {
	return api.Word{From: from, To: to, Column: column, First: first, Tokens: tokens}
}

// expectPlain fails unless Plain returns a text's scan.
func expectPlain(t *testing.T, g api.Grammar, c api.Config, text string, want api.Plain) {
	t.Helper()
	want.End = len(text)
	if got, e := plain(t, g, c, text); e != api.OK || !samePlain(got, want) {
		t.Errorf("Plain of %q in configuration %d: %v, error %d, want %v", text, c, got, e, want)
	}
}

// expectScan fails unless Scan returns a source's scan, which is valid.
func expectScan(t *testing.T, g api.Grammar, s api.Source, want api.Scan) {
	t.Helper()
	want.End = len(s.Text)
	got, e := scan(t, g, s)
	if e != api.OK || !sameScan(got, want) {
		t.Errorf("Scan of %q: %v, error %d, want %v", s.Text, got, e, want)
	}
	if e := check(t, g, got); e != api.OK {
		t.Errorf("Check of the scan of %q: error %d", s.Text, e)
	}
}

// lexeme returns a lexeme with the same set for all its tokens.
func lexeme(from, to, column int, first bool, where api.Diagram, tokens ...int) api.Lexeme {
	x := api.Lexeme{From: from, To: to, Column: column, First: first, If: where}
	for _, t := range tokens {
		x.Choices = append(x.Choices, api.Choice{Token: t, If: where})
	}
	return x
}

// P8.1, H1: the chapter's examples 1 and 2.
func TestPlainExamples(t *testing.T) {
	g := example()
	expectPlain(t, g, 1, "if x", api.Plain{Words: []api.Word{word(0, 2, 0, true, 1), word(3, 4, 3, false, 0)}, Stuck: -1})
	expectPlain(t, g, 0, "if x", api.Plain{Words: []api.Word{word(0, 2, 0, true, 0, 1), word(3, 4, 3, false, 0)}, Stuck: -1})
	expectPlain(t, g, 1, "x !", api.Plain{Words: []api.Word{word(0, 1, 0, true, 0)}, Stuck: 2})
	expectPlain(t, g, 0, "", api.Plain{Stuck: -1})
	expectPlain(t, g, 0, "!x", api.Plain{Stuck: 0})
}

// P8.1, H2: the chapter's examples 3, 4 and 5.
func TestScanExamples(t *testing.T) {
	g := example()
	a := set("A")
	s := read(1, "x", "#if A", "= y", "#end")
	expectScan(t, g, s, api.Scan{
		Lexemes: []api.Lexeme{lexeme(0, 1, 0, true, all(), 0), lexeme(2, 3, 0, true, a, 2), lexeme(4, 5, 2, false, a, 0)},
		Good:    all(),
	})

	blanks := example()
	blanks.Tokens[3] = token(api.Layout, `/\x20\x20*/`, all())
	expectScan(t, blanks, s, api.Scan{Faults: []api.Fault{{At: 1, If: all()}}, Good: none()})

	g.Tokens = append(g.Tokens, token(api.Remark, `/%([\x00-:]|[<-\xff])*;/`, all()))
	s = read(1, "% a", "#if A", "b", "#end", "c ;")
	expectScan(t, g, s, api.Scan{Faults: []api.Fault{{At: 0, Cut: true, If: all()}}, Good: none()})
}

// P8.1, H1: what the candidates of a lexeme are, and its kind.
func TestKinds(t *testing.T) {
	a, b := set("A"), set("B")
	g := grammarOf(2,
		token(api.Layout, "ab", a),
		token(api.Ordinary, "/[a-z][a-z]*/", all()),
		token(api.Remark, "abc", b),
		token(api.Remark, "/abc*/", all()),
		token(api.Ordinary, "/a(b)*/", all()),
		token(api.Layout, `/(\x20)*/`, all()),
	)
	expectPlain(t, g, 0, "ab", api.Plain{Words: []api.Word{word(0, 2, 0, true, 1, 4)}, Stuck: -1})
	expectPlain(t, g, 1, "ab a", api.Plain{Words: []api.Word{word(3, 4, 3, false, 1, 4)}, Stuck: -1})
	expectPlain(t, g, 1, "abc", api.Plain{Words: []api.Word{word(0, 3, 0, true, 1)}, Stuck: -1})

	g.Tokens[1].If = not(b)
	expectPlain(t, g, 2, "abc abcc", api.Plain{Remarks: []api.Word{word(0, 3, 0, true, 2), word(4, 8, 4, false, 3)}, Stuck: -1})
	expectPlain(t, g, 2, "abc z", api.Plain{Remarks: []api.Word{word(0, 3, 0, true, 2)}, Stuck: 4})
	expectPlain(t, g, 3, "ab abb", api.Plain{Words: []api.Word{word(3, 6, 3, false, 4)}, Stuck: -1})
}

// P8.1, H1: reserved words, also for a literal that is not present, and for all tokens of a word.
func TestReserved(t *testing.T) {
	a, b := set("A"), set("B")
	g := grammarOf(2,
		token(api.Ordinary, "/[a-z][a-z]*/", all()),
		token(api.Ordinary, "if", a),
		token(api.Remark, "do", none()),
		token(api.Layout, " ", all()),
		token(api.Ordinary, "/i[a-z]/", all()),
	)
	g.Filters = []api.Filter{reserve(b, 0, 1, 2), reserve(and(a, b), 4, 1), {Kind: api.FilterFollow, Tokens: []int{0}, If: all()}}
	one := func(tokens ...int) api.Plain {
		return api.Plain{Words: []api.Word{word(0, 2, 0, true, tokens...)}, Stuck: -1}
	}
	expectPlain(t, g, 0, "if", one(0, 4))
	expectPlain(t, g, 1, "if", one(0, 1, 4))
	expectPlain(t, g, 2, "if", one(4))
	expectPlain(t, g, 3, "if", one(1))
	expectPlain(t, g, 0, "do", one(0))
	expectPlain(t, g, 2, "do", one())
	expectPlain(t, g, 2, "di", one(0))
	expectPlain(t, g, 2, "ix", one(0, 4))

	expectScan(t, g, read(2, "if#if"), api.Scan{Faults: []api.Fault{{At: 2, If: all()}}, Good: none()})
	g.Tokens[3] = token(api.Layout, "\n", all())
	x := lexeme(0, 2, 0, true, all(), 0, 1, 4)
	x.Choices[0].If, x.Choices[1].If, x.Choices[2].If = not(b), a, not(and(a, b))
	y := lexeme(3, 5, 0, true, all(), 0)
	y.Choices[0].If = not(b)
	expectScan(t, g, read(2, "if", "do"), api.Scan{Lexemes: []api.Lexeme{x, y}, Good: all()})
	g.Family = b
	y.If, y.Choices = b, nil
	expectScan(t, g, read(2, "do"), api.Scan{Lexemes: []api.Lexeme{lexeme(0, 2, 0, true, b)}, Good: b})
}

// P8.1, H2: lexemes that are cut, and layout that is not.
func TestCut(t *testing.T) {
	a, b := set("A"), set("B")
	g := grammarOf(2,
		token(api.Ordinary, "/[a-z](\\x0a|[a-z])*;/", all()),
		token(api.Layout, `/\x20|\x0a(\x0a|\x20)*/`, all()),
		token(api.Remark, "/%(\\x0a|[a-z])*;/", all()),
		token(api.Ordinary, "/[a-z]/", all()),
	)
	// With A, the first match ends behind the second segment; without A, it is the one byte.
	s := read(2, "a", "#if A", "b;", "#end", "#if B", " c", "#end")
	expectScan(t, g, s, api.Scan{
		Lexemes: []api.Lexeme{lexeme(0, 1, 0, true, not(a), 3), lexeme(6, 7, 1, true, and(not(a), b), 3)},
		Faults:  []api.Fault{{At: 0, Cut: true, If: a}},
		Good:    not(a),
	})
	// With A, the remark is cut at the same offset at which the scan is stuck without A.
	s = read(2, "d", "%", "#if A && B", "#elif A", "e;", "#end", "f")
	expectScan(t, g, s, api.Scan{
		Faults:  []api.Fault{{At: 2, If: or(not(a), b)}, {At: 2, Cut: true, If: and(a, not(b))}},
		Lexemes: nil,
		Good:    none(),
	})
	// Layout of several segments: each configuration goes on where it ends.
	s = read(2, "a", "#if A", "  ", "#elif B", "", " b", "#end", "", "#if B", "c", "#end")
	expectScan(t, g, s, api.Scan{
		Lexemes: []api.Lexeme{lexeme(0, 1, 0, true, all(), 3), lexeme(7, 8, 1, true, and(not(a), b), 3), lexeme(10, 11, 0, true, b, 3)},
		Good:    all(),
	})
	// A word that ends with its segment is not cut, and neither is one in the last segment.
	g.Tokens[0] = token(api.Ordinary, "/[a-z]\\x0a/", all())
	s = read(2, "a", "#if A", "b", "#end", "c")
	expectScan(t, g, s, api.Scan{
		Lexemes: []api.Lexeme{lexeme(0, 2, 0, true, all(), 0), lexeme(2, 4, 0, true, a, 0), lexeme(4, 6, 0, true, all(), 0)},
		Good:    all(),
	})
	// Two segments with the same condition are two segments.
	g.Tokens[0] = token(api.Ordinary, "a\nb", all())
	s = read(2, "a", "#if true", "b", "#end", "a", "b")
	s.Segments[1].If = all()
	expectScan(t, g, s, api.Scan{Faults: []api.Fault{{At: 0, Cut: true, If: all()}}, Good: none()})
	expectScan(t, g, read(2, "a", "b"), api.Scan{Lexemes: []api.Lexeme{lexeme(0, 3, 0, true, all(), 0)}, Good: all()})
}

// P8.1, H2: lexemes that begin at the same offset and end at different ones, words and remarks.
func TestTwoEnds(t *testing.T) {
	a, b := set("A"), set("B")
	g := grammarOf(2,
		token(api.Ordinary, "a", all()),
		token(api.Ordinary, "aaa", a),
		token(api.Remark, "aa", b),
		token(api.Layout, "\n", all()),
		token(api.Remark, "/aa/", set("A && B")),
		token(api.Ordinary, "/(a|aa)*/", set("A && !B")),
	)
	g.Tokens[2].If = set("B && !A || A && B")
	rest := and(not(a), not(b))
	x := api.Scan{
		Lexemes: []api.Lexeme{lexeme(0, 1, 0, true, rest, 0), lexeme(0, 3, 0, true, a, 1, 5), lexeme(1, 2, 1, false, rest, 0), lexeme(2, 3, 2, false, or(rest, and(not(a), b)), 0)},
		Remarks: []api.Lexeme{lexeme(0, 2, 0, true, and(not(a), b), 2)},
		Good:    all(),
	}
	x.Lexemes[1].Choices[1].If = set("A && !B")
	expectScan(t, g, read(2, "aaa"), x)

	// Remarks with different least candidates.
	g.Tokens[1].If, g.Tokens[2].If, g.Tokens[4].If = none(), a, all()
	g.Tokens[5].If = none()
	y := lexeme(0, 2, 0, true, all(), 2, 4)
	y.Choices[0].If, y.Choices[1].If = a, not(a)
	expectScan(t, g, read(2, "aa"), api.Scan{Remarks: []api.Lexeme{y}, Good: all()})
}

// P8.1, H2: a family, and sources without text.
func TestFamily(t *testing.T) {
	g := example()
	g.Conditions, g.Family = names(3), set("A && !C")
	for _, s := range []api.Source{{}, {Text: "x\n", Segments: []api.Segment{{To: 2, If: none()}}}, {Text: "!\n", Segments: []api.Segment{{To: 2, If: set("C")}}}} {
		expectScan(t, g, s, api.Scan{Good: g.Family})
	}
	s := read(3, "#if B || C", "x", "#end", "#if B", "!", "#end")
	expectScan(t, g, s, api.Scan{Faults: []api.Fault{{At: 2, If: set("A && B && !C")}}, Good: set("A && !B && !C")})
}

// P8.1, H1: errors in their order.
func TestPlainErrors(t *testing.T) {
	bad := example()
	bad.Family = none()
	cyclic := example()
	cyclic.Productions = []api.Production{{Name: "p", Right: []api.Symbol{{Index: 0}}, If: all()}}
	some := example()
	some.Family = set("A")
	long := strings.Repeat("x", api.MaxText+1)
	for i, x := range []struct {
		g    api.Grammar
		c    api.Config
		text string
		want api.Errno
	}{
		{bad, 2, long, api.ErrFamily},
		{cyclic, 2, long, facts.Check(cyclic)},
		{cyclic, 0, "x", api.ErrCycle},
		{example(), 2, long, api.ErrArg},
		{example(), 1 << 63, "x", api.ErrArg},
		{some, 0, "x", api.ErrArg},
		{some, 1, long, api.ErrLarge},
		{some, 1, "x", api.OK},
	} {
		if _, e := plain(t, x.g, x.c, x.text); e != x.want {
			t.Errorf("case %d: error %d, want %d", i, e, x.want)
		}
	}
}

// P8.1, H2: errors in their order.
func TestScanErrors(t *testing.T) {
	bad := example()
	bad.Tokens[0].Sample = ""
	cyclic := example()
	cyclic.Productions = []api.Production{{Name: "p", Right: []api.Symbol{{Index: 0}}, If: all()}}
	good := read(1, "x", "y", "#if A", "z", "#end")
	unfit := copyOf(good)
	unfit.Segments[1].If = set("B")
	broken := copyOf(unfit)
	broken.Segments[0].From = 1
	large := api.Source{Text: strings.Repeat("\n", api.MaxText+1)}
	invalid := copyOf(good)
	invalid.Segments[0].If.Root = 7
	for i, x := range []struct {
		g    api.Grammar
		s    api.Source
		want api.Errno
	}{
		{bad, broken, api.ErrToken},
		{cyclic, broken, api.ErrCycle},
		{example(), broken, api.ErrFile},
		{example(), invalid, source.Check(invalid)},
		{example(), large, api.ErrLarge},
		{example(), unfit, api.ErrArg},
		{example(), good, api.OK},
	} {
		if _, e := scan(t, x.g, x.s); e != x.want {
			t.Errorf("case %d: error %d, want %d", i, e, x.want)
		}
	}
}

// P8.1, H3: the words of a configuration, also in scans that are not valid.
func TestSelect(t *testing.T) {
	x := api.Scan{
		Lexemes: []api.Lexeme{lexeme(7, -3, 9, true, set("A"), 4, 4), {From: 2, To: 2, If: all()}, lexeme(5, 6, 5, false, api.Diagram{Root: 9}, 1)},
		Remarks: []api.Lexeme{lexeme(1, 2, 3, true, set("A || B"), 8), lexeme(0, 0, 0, false, none(), 8)},
		Faults:  []api.Fault{{At: 3, If: all()}},
		Good:    set("A || B"),
		End:     -5,
	}
	x.Lexemes[0].Choices[1].If = set("B")
	x.Lexemes[0].Choices = append(x.Lexemes[0].Choices, api.Choice{Token: -1, If: all()})
	for c, want := range []api.Plain{
		{Stuck: -1},
		{Words: []api.Word{word(7, -3, 9, true, 4, -1), word(2, 2, 0, false)}, Remarks: []api.Word{word(1, 2, 3, true, 8)}, End: -5, Stuck: -1},
		{Words: []api.Word{word(2, 2, 0, false)}, Remarks: []api.Word{word(1, 2, 3, true, 8)}, End: -5, Stuck: -1},
		{Words: []api.Word{word(7, -3, 9, true, 4, 4, -1), word(2, 2, 0, false)}, Remarks: []api.Word{word(1, 2, 3, true, 8)}, End: -5, Stuck: -1},
	} {
		if got := selected(t, x, api.Config(c)); !samePlain(got, want) {
			t.Errorf("configuration %d: %v, want %v", c, got, want)
		}
	}
	x.Good = api.Diagram{Root: 2}
	if got := selected(t, x, 1); !samePlain(got, api.Plain{Stuck: -1}) {
		t.Errorf("a scan whose good configurations are not valid: %v", got)
	}
}

// P8.1, H1: what random patterns match, in texts with long lexemes.
func TestMatches(t *testing.T) {
	g := seeded(0)
	for range 20000 {
		x := grammarOf(0)
		for i := range 1 + g.IntN(2) {
			x.Tokens = append(x.Tokens, token(api.Remark, "/"+g.pattern(1+g.IntN(12))+"/", all()))
			x.Tokens[i].Name = strconv.Itoa(i)
		}
		text := g.text(10)
		if g.IntN(4) == 0 {
			text = strings.Repeat(text, g.IntN(20))
		}
		if got, want := goodPlain(t, x, 0, text), plainScan(x, 0, text); !samePlain(got, want) {
			t.Fatalf("%q with %v:\n%v, want\n%v", text, x.Tokens, got, want)
		}
	}
}

// P8.1, H1: random texts.
func TestPlainRandom(t *testing.T) {
	g := seeded(1)
	for range 3000 {
		x, text := g.grammar(g.IntN(3)), g.text(pick(g, 4, 12, 200))
		for _, c := range family(x) {
			if got, want := goodPlain(t, x, c, text), plainScan(x, c, text); !samePlain(got, want) {
				t.Fatalf("%q in configuration %d of %v:\n%v, want\n%v", text, c, x, got, want)
			}
		}
	}
}

// P8.1, H2: random sources.
func TestScanRandom(t *testing.T) {
	g := seeded(2)
	for range 3000 {
		n := g.IntN(4)
		x, s := g.grammar(n), g.source(n, pick(g, 3, 9), pick(g, 3, 8, 100))
		if got, want := goodScan(t, x, s), scanOf(x, s); !sameScan(got, want) {
			t.Fatalf("%q in segments %v of %v:\n%v, want\n%v", s.Text, s.Segments, x, got, want)
		}
	}
}

// P8.1, R6: arguments are not changed, and results are new memory.
func TestMemory(t *testing.T) {
	g := seeded(3)
	for range 300 {
		n := g.IntN(4)
		x, s := g.grammar(n), g.source(n, 4, 8)
		found, e := scan(t, x, s)
		if e != api.OK || check(t, x, found) != api.OK {
			t.Fatalf("error %d", e)
		}
		for _, c := range family(x) {
			selected(t, found, c)
			plain(t, x, c, s.Text)
		}
	}
}
