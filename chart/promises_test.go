package chart_test

import (
	"cmp"
	"slices"
	"testing"

	"koine/api"
	"koine/chart"
	"koine/diagram"
	"koine/facts"
	"koine/grammar"
	"koine/scanner"
	"koine/source"
)

// P10.1: all functions, for random grammars and scans.
func TestRandom(t *testing.T) {
	g := seeded(1)
	wide, partial := 0, 0
	for range 6000 {
		n := g.IntN(4)
		x := g.grammar(n)
		s := g.scan(x)
		got, want := goodSpans(t, x, s), chartOf(x, s)
		if !sameSpans(got, want) {
			t.Fatalf("the chart of %v with %v is %v, want %v", s, x, got, want)
		}
		expectStart(t, s, startOf(n, s)...)
		expectAccepted(t, x, s, acceptedOf(x, s))
		for _, l := range want {
			expectFound(t, got, l.Left, l.From, l.To, l.If)
			if len(s.Lexemes) > 2 && l.From == s.Lexemes[0].From && l.To == s.End {
				wide++
			}
			if !diagram.Same(l.If, s.Good) {
				partial++
			}
		}
	}
	if wide < 300 || partial < 10000 {
		t.Errorf("only %d spans of all words, %d of some configurations", wide, partial)
	}
}

// in returns the spans of a configuration.
func in(l []api.Span, c api.Config) []section {
	var list []section
	for _, s := range l {
		if diagram.Holds(s.If, c) {
			list = append(list, section{s.Left, s.From, s.To})
		}
	}
	return list
}

// P10.2: the spans of a configuration are those of its text alone, with other offsets.
func TestSelection(t *testing.T) {
	g := seeded(3)
	some := 0
	for range 3000 {
		n := g.IntN(4)
		x, src := g.grammar(n), g.source(n, 6)
		s := sure(scanner.Scan(x, src))
		list := goodSpans(t, x, s)
		for _, c := range configsOf(s.Good, n) {
			alone := api.Source{Text: source.Select(src, c)}
			if alone.Text != "" {
				alone.Segments = []api.Segment{{To: len(alone.Text), If: all()}}
			}
			one := sure(grammar.At(x, c))
			want := in(goodSpans(t, one, sure(scanner.Scan(one, alone))), 0)
			offset := func(local int) int {
				if at, ok := source.Global(src, c, local); ok && local < len(alone.Text) {
					return at
				}
				return s.End
			}
			for i, w := range want {
				want[i] = section{w.left, offset(w.from), offset(w.to)}
			}
			if got := in(list, c); !slices.Equal(got, want) {
				t.Fatalf("%v with %v, configuration %d: %v, want %v", src, x, c, got, want)
			}
			some += len(want)
		}
	}
	if some < 10000 {
		t.Errorf("only %d spans", some)
	}
}

// P10.3: the spans of a configuration are what its productions derive from words and spans.
func TestRules(t *testing.T) {
	g := seeded(4)
	for range 3000 {
		n := g.IntN(4)
		x := g.grammar(n)
		s := g.scan(x)
		list := goodSpans(t, x, s)
		for _, c := range configsOf(s.Good, n) {
			r := read(x, s, c)
			for _, l := range in(list, c) {
				r.derived[l] = true
			}
			derived := map[section]bool{}
			for _, p := range x.Productions {
				for i := range r.gaps {
					for j := i; j < len(r.gaps) && r.present(p); j++ {
						if r.fits(p.Right, i, j) {
							derived[section{p.Left, r.gaps[i], r.gaps[j]}] = true
						}
					}
				}
			}
			for _, l := range in(list, c) {
				if !derived[l] {
					t.Fatalf("%v with %v, configuration %d: no production for %v", s, x, c, l)
				}
				delete(derived, l)
			}
			for l := range derived {
				t.Fatalf("%v with %v, configuration %d: %v is missing", s, x, c, l)
			}
		}
	}
}

// P10.4: Accepted is made of the spans of the start symbol from the beginnings to the end.
func TestAcceptance(t *testing.T) {
	g := seeded(5)
	some := 0
	for range 4000 {
		x := g.grammar(g.IntN(4))
		s := g.scan(x)
		list := goodSpans(t, x, s)
		want := none()
		for _, b := range sure(start(t, s)) {
			want = or(want, and(b.If, find(t, list, x.Start, b.From, s.End)))
		}
		expectAccepted(t, x, s, want)
		if !diagram.Same(want, none()) && len(s.Lexemes) > 0 {
			some++
		}
	}
	if some < 300 {
		t.Errorf("only %d scans of which a configuration is accepted", some)
	}
}

// P10.5: the spans from a gap to itself are where a nonterminal is nullable.
func TestEmptySpans(t *testing.T) {
	g := seeded(6)
	for range 3000 {
		x := g.grammar(g.IntN(4))
		s := g.scan(x)
		having := map[int]api.Diagram{s.End: s.Good}
		for _, l := range s.Lexemes {
			having[l.From] = or(having[l.From], l.If)
		}
		var want []api.Span
		for at, where := range having {
			for left, nullable := range sure(facts.Nullable(x)) {
				if d := and(where, nullable); !diagram.Same(d, none()) {
					want = append(want, span(left, at, at, d))
				}
			}
		}
		slices.SortFunc(want, compareSpans)
		got := slices.DeleteFunc(goodSpans(t, x, s), func(l api.Span) bool { return l.From < l.To })
		if !sameSpans(got, want) {
			t.Fatalf("%v with %v: %v, want %v", s, x, got, want)
		}
	}
}

// expectMore fails unless each span of a list is in another list, with the same or more configurations.
func expectMore(t *testing.T, less, more []api.Span) {
	t.Helper()
	for _, l := range less {
		if d := chart.Find(more, l.Left, l.From, l.To); !diagram.Within(l.If, d) {
			t.Fatalf("%v has only %v", l, d)
		}
	}
}

// P10.6: further productions, and those present in more configurations.
func TestMonotonicity(t *testing.T) {
	g := seeded(7)
	more, wider := 0, 0
	for range 4000 {
		n := g.IntN(4)
		x := g.grammar(n)
		s := g.scan(x)
		list := goodSpans(t, x, s)
		y := copyOf(x)
		y.Productions = append(y.Productions, g.production(y))
		if facts.Check(y) == api.OK {
			further := goodSpans(t, y, s)
			expectMore(t, list, further)
			more += len(further) - len(list)
		}
		if len(x.Productions) == 0 {
			continue
		}
		y = copyOf(x)
		p := &y.Productions[g.IntN(len(y.Productions))]
		p.If = or(p.If, g.set(n))
		if facts.Check(y) == api.OK {
			further := goodSpans(t, y, s)
			expectMore(t, list, further)
			if !sameSpans(list, further) {
				wider++
			}
		}
	}
	if more < 1000 || wider < 100 {
		t.Errorf("only %d more spans, %d charts that a wider production changes", more, wider)
	}
}

// within returns the spans in the configurations of a set.
func within(l []api.Span, where api.Diagram) []api.Span {
	var list []api.Span
	for _, s := range l {
		if d := and(s.If, where); !diagram.Same(d, none()) {
			list = append(list, span(s.Left, s.From, s.To, d))
		}
	}
	return list
}

// choose returns the configurations of a with condition 0, and those of b without it.
func choose(a, b api.Diagram) api.Diagram { return sure(diagram.Choose(is(0), a, b)) }

// expectApart fails unless a list has the spans of a with condition 0, and those of b without it.
func expectApart(t *testing.T, list, a, b []api.Span) {
	t.Helper()
	for value, l := range map[bool][]api.Span{true: a, false: b} {
		where := choose(diagram.Constant(value), diagram.Constant(!value))
		if got, want := within(list, where), within(l, where); !sameSpans(got, want) {
			t.Fatalf("condition 0 is %v: %v, want %v", value, got, want)
		}
	}
}

// P10.6: productions without common configurations do not influence one another.
func TestSeparateProductions(t *testing.T) {
	g := seeded(8)
	for range 2000 {
		n := 1 + g.IntN(3)
		x := g.grammar(n)
		y, both := copyOf(x), copyOf(x)
		y.Productions = g.renamed(g.grammar(n).Productions, len(x.Nonterminals))
		if facts.Check(y) != api.OK {
			continue
		}
		for i, p := range x.Productions {
			both.Productions[i].If = choose(p.If, none())
		}
		for _, p := range y.Productions {
			p.If = choose(none(), p.If)
			both.Productions = append(both.Productions, p)
		}
		s := g.scan(x)
		expectApart(t, goodSpans(t, both, s), goodSpans(t, x, s), goodSpans(t, y, s))
	}
}

// renamed returns productions with other names, whose nonterminals are less than n.
func (g generator) renamed(list []api.Production, n int) []api.Production {
	list = copyOf(list)
	for i := range list {
		p := &list[i]
		p.Name += "'"
		p.Left %= n
		for j := range p.Right {
			if !p.Right[j].Token {
				p.Right[j].Index %= n
			}
		}
	}
	return list
}

// P10.6: words without common configurations do not influence one another.
func TestSeparateWords(t *testing.T) {
	g := seeded(9)
	for range 2000 {
		x := g.grammar(1 + g.IntN(3))
		a, b := g.scan(x), g.scan(x)
		a.End = max(a.End, b.End)
		b.End = a.End
		both := joined(a, b)
		if e := scanner.Check(x, both); e != api.OK {
			t.Fatalf("%v is not valid: error %d", both, e)
		}
		expectApart(t, goodSpans(t, x, both), goodSpans(t, x, a), goodSpans(t, x, b))
	}
}

// joined returns a scan that has the words of a with condition 0, and those of b without it.
func joined(a, b api.Scan) api.Scan {
	x := api.Scan{Good: choose(a.Good, b.Good), End: a.End}
	fault := func(f api.Fault, where api.Diagram) {
		if diagram.Same(where, none()) {
			return
		}
		i := slices.IndexFunc(x.Faults, func(g api.Fault) bool { return g.At == f.At && g.Cut == f.Cut })
		if i < 0 {
			x.Faults = append(x.Faults, api.Fault{At: f.At, Cut: f.Cut, If: where})
			return
		}
		x.Faults[i].If = or(x.Faults[i].If, where)
	}
	for _, f := range a.Faults {
		fault(f, choose(f.If, none()))
	}
	for _, f := range b.Faults {
		fault(f, choose(none(), f.If))
	}
	slices.SortFunc(x.Faults, func(f, g api.Fault) int {
		if f.At == g.At && f.Cut != g.Cut {
			if g.Cut {
				return -1
			}
			return 1
		}
		return cmp.Compare(f.At, g.At)
	})
	x.Lexemes = joinedLexemes(a.Lexemes, b.Lexemes)
	return x
}

func joinedLexemes(a, b []api.Lexeme) []api.Lexeme {
	type extent struct{ from, to int }
	gathered := map[extent]api.Lexeme{}
	gather := func(l api.Lexeme, choose func(d api.Diagram) api.Diagram) {
		e := extent{l.From, l.To}
		k := gathered[e]
		k.From, k.To, k.If = l.From, l.To, or(k.If, choose(l.If))
		for _, c := range l.Choices {
			where := choose(c.If)
			i := slices.IndexFunc(k.Choices, func(o api.Choice) bool { return o.Token == c.Token })
			switch {
			case diagram.Same(where, none()):
			case i < 0:
				k.Choices = append(k.Choices, api.Choice{Token: c.Token, If: where})
			default:
				k.Choices[i].If = or(k.Choices[i].If, where)
			}
		}
		slices.SortFunc(k.Choices, func(a, b api.Choice) int { return cmp.Compare(a.Token, b.Token) })
		gathered[e] = k
	}
	for _, l := range a {
		gather(l, func(d api.Diagram) api.Diagram { return choose(d, none()) })
	}
	for _, l := range b {
		gather(l, func(d api.Diagram) api.Diagram { return choose(none(), d) })
	}
	var list []api.Lexeme
	for _, l := range gathered {
		if !diagram.Same(l.If, none()) {
			list = append(list, l)
		}
	}
	slices.SortFunc(list, func(a, b api.Lexeme) int {
		return cmp.Or(cmp.Compare(a.From, b.From), cmp.Compare(a.To, b.To))
	})
	return list
}
