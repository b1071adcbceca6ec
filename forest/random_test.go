package forest_test

import (
	"cmp"
	"math/rand/v2"
	"slices"
	"strconv"

	"koine/api"
	"koine/diagram"
	"koine/facts"
	"koine/scanner"
)

// A generator makes random arguments.
type generator struct{ *rand.Rand }

func seeded(k uint64) generator { return generator{rand.New(rand.NewPCG(11, k))} }

// pick returns one of several values.
func pick[T any](g generator, list ...T) T { return list[g.IntN(len(list))] }

// set returns a set of configurations of n conditions.
func (g generator) set(n int) api.Diagram {
	d := diagram.Constant(g.IntN(6) > 0)
	if n == 0 {
		return d
	}
	for range g.IntN(4) {
		x := is(g.IntN(n))
		switch g.IntN(4) {
		case 0:
			d = and(d, x)
		case 1:
			d = or(d, x)
		case 2:
			d = sure(diagram.Xor(d, x))
		case 3:
			d = and(d, not(x))
		}
	}
	return d
}

// production returns a production of a grammar that has its tokens and nonterminals.
func (g generator) production(x api.Grammar) api.Production {
	p := api.Production{Name: "p" + strconv.Itoa(len(x.Productions)), Left: g.IntN(len(x.Nonterminals)), If: all()}
	if g.IntN(2) == 0 {
		p.If = g.set(len(x.Conditions))
	}
	length := pick(g, 0, 1, 1, 2, 2, 2, 3, 3, 4)
	if len(x.Productions) < len(x.Nonterminals) && g.IntN(3) > 0 {
		p.Left, length = len(x.Productions), 0
		p.Right = []api.Symbol{{Token: true, Index: g.IntN(3)}}
	}
	for range length {
		s := api.Symbol{Token: g.IntN(5) < 2, Index: g.IntN(3)}
		if !s.Token {
			s.Index = g.IntN(len(x.Nonterminals))
		}
		p.Right = append(p.Right, s)
	}
	return p
}

// grammar returns a grammar with n conditions, in which no nonterminal derives itself. Its first three tokens are ordinary.
func (g generator) grammar(n int) api.Grammar {
	tokens := append(words("a", "b", "c"), api.Token{Name: "#", Class: api.Remark, Literal: "#", If: all()})
	x := api.Grammar{Conditions: names(n), Family: all(), Tokens: tokens, Nonterminals: []string{"S", "T", "U", "V"}[:1+g.IntN(4)]}
	x.Start = g.IntN(len(x.Nonterminals))
	if g.IntN(3) == 0 {
		x.Family = g.set(n)
	}
	if diagram.Same(x.Family, none()) {
		x.Family = all()
	}
	for i := range 3 {
		if g.IntN(3) == 0 {
			x.Tokens[i].If = g.set(n)
		}
	}
	if g.IntN(2) == 0 {
		// Words can be several tokens.
		a := api.PatternNode{Kind: api.PatternRange, Lo: 'a', Hi: 'c'}
		x.Tokens[2].Literal, x.Tokens[2].Pattern, x.Tokens[2].Sample = "", api.Pattern{a}, "c"
	}
	for range 2 + g.IntN(9) {
		p := g.production(x)
		x.Productions = append(x.Productions, p)
		if facts.Check(x) != api.OK {
			x.Productions = x.Productions[:len(x.Productions)-1]
		}
	}
	return x
}

// chains returns a grammar with n conditions, in which nonterminals lead to one another, in different directions in different configurations.
func (g generator) chains(n int) api.Grammar {
	x := api.Grammar{Conditions: names(n), Family: all(), Tokens: append(words("a", "b", "c"), api.Token{Name: "#", Class: api.Remark, Literal: "#", If: all()}), Nonterminals: []string{"S", "T", "U", "V"}}
	for i := range x.Nonterminals {
		for _, t := range []int{i % 3, g.IntN(3)} {
			x.Productions = append(x.Productions, api.Production{Name: "p" + strconv.Itoa(len(x.Productions)), Left: i, Right: []api.Symbol{{Token: true, Index: t}}, If: all()})
		}
	}
	add := func(left int, where api.Diagram, right ...api.Symbol) {
		x.Productions = append(x.Productions, api.Production{Name: "p" + strconv.Itoa(len(x.Productions)), Left: left, Right: right, If: where})
		if diagram.Same(where, none()) || facts.Check(x) != api.OK {
			x.Productions = x.Productions[:len(x.Productions)-1]
		}
	}
	for range 8 {
		a, b, where := g.IntN(4), g.IntN(4), g.set(n)
		if n > 0 {
			where = sure(diagram.Xor(where, is(g.IntN(n))))
		}
		add(a, where, api.Symbol{Index: b})
		add(b, not(where), api.Symbol{Index: a})
		switch g.IntN(4) {
		case 0:
			add(a, where, api.Symbol{Index: g.IntN(4)}, api.Symbol{Index: b})
		case 1:
			add(g.IntN(4), where)
		}
	}
	return x
}

// source returns a source with some segments for n conditions.
func (g generator) source(n, segments int) api.Source {
	var s api.Source
	for range g.IntN(segments + 1) {
		from := len(s.Text)
		for range g.IntN(5) {
			s.Text += pick(g, "a", "a", "a", "b", "b", "b", "c", "c", " ", "#")
		}
		if g.IntN(20) == 0 {
			s.Text += "!"
		}
		s.Text += "\n"
		s.Segments = append(s.Segments, api.Segment{From: from, To: len(s.Text), If: g.set(n)})
	}
	return s
}

// scan returns a scan that is valid for a grammar: that of a source, or one that need not be the scan of any source.
func (g generator) scan(x api.Grammar) api.Scan {
	if g.IntN(2) == 0 {
		return sure(scanner.Scan(x, g.source(len(x.Conditions), 6)))
	}
	return g.madeScan(x)
}

// madeScan returns a scan in which each configuration has words of its own. The words of most configurations are like those of another one.
func (g generator) madeScan(x api.Grammar) api.Scan {
	n := len(x.Conditions)
	made := api.Scan{Good: x.Family, End: 1 + g.IntN(9)}
	if bad := and(x.Family, g.set(n)); g.IntN(3) == 0 && !diagram.Same(bad, none()) {
		made.Good = and(x.Family, not(bad))
		made.Faults = []api.Fault{{At: g.IntN(made.End), Cut: g.IntN(2) == 0, If: bad}}
	}
	type extent struct{ from, to int }
	configs := map[extent][]api.Config{}
	var list []extent
	for _, c := range configsOf(made.Good, n) {
		if g.IntN(3) == 0 {
			list = nil
			for from := g.IntN(2); from < made.End; from += g.IntN(2) {
				e := extent{from, min(from+1+g.IntN(3), made.End)}
				list = append(list, e)
				from = e.to
			}
		}
		for _, e := range list {
			if g.IntN(8) > 0 {
				configs[e] = append(configs[e], c)
			}
		}
	}
	for e, l := range configs {
		made.Lexemes = append(made.Lexemes, lexeme(e.from, e.to, setOf(n, l)))
	}
	slices.SortFunc(made.Lexemes, func(a, b api.Lexeme) int {
		return cmp.Or(cmp.Compare(a.From, b.From), cmp.Compare(a.To, b.To))
	})
	for i, l := range made.Lexemes {
		for t := range 3 {
			where := and(l.If, x.Tokens[t].If)
			if g.IntN(2) == 0 {
				where = and(where, g.set(n))
			}
			if !diagram.Same(where, none()) && g.IntN(4) > 0 {
				made.Lexemes[i].Choices = append(made.Lexemes[i].Choices, api.Choice{Token: t, If: where})
			}
		}
	}
	return made
}
