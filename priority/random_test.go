package priority_test

import (
	"math/rand/v2"
	"slices"
	"strconv"

	"koine/api"
	"koine/diagram"
	"koine/facts"
)

// A generator makes random arguments.
type generator struct{ *rand.Rand }

func seeded(k uint64) generator { return generator{rand.New(rand.NewPCG(13, k))} }

// pick returns one of several values.
func pick[T any](g generator, list ...T) T { return list[g.IntN(len(list))] }

// set returns a set of configurations of n conditions.
func (g generator) set(n int) api.Diagram {
	d := diagram.Constant(g.IntN(6) > 0)
	if n == 0 {
		return d
	}
	for range g.IntN(4) {
		x := is(g.IntN(n))
		switch g.IntN(4) {
		case 0:
			d = and(d, x)
		case 1:
			d = or(d, x)
		case 2:
			d = sure(diagram.Xor(d, x))
		case 3:
			d = and(d, not(x))
		}
	}
	return d
}

// some returns a set of configurations of n conditions that is not empty.
func (g generator) some(n int) api.Diagram {
	for {
		if d := g.set(n); !diagram.Same(d, none()) {
			return d
		}
	}
}

// symbol returns a symbol, most often the nonterminal left.
func (g generator) symbol(x api.Grammar, left int) api.Symbol {
	switch g.IntN(6) {
	case 0, 1:
		return api.Symbol{Token: true, Index: g.IntN(4)}
	case 2:
		return api.Symbol{Index: g.IntN(len(x.Nonterminals))}
	}
	return api.Symbol{Index: left}
}

// grammar returns a grammar with n conditions, levels and filters, in which no nonterminal derives itself, and each one derives its own token everywhere.
func (g generator) grammar(n int) api.Grammar {
	x := api.Grammar{Conditions: names(n), Family: all(), Tokens: words("a", "b", "c", "d"), Nonterminals: []string{"S", "T", "U"}[:1+g.IntN(3)]}
	x.Start = g.IntN(len(x.Nonterminals))
	if g.IntN(3) == 0 {
		x.Family = g.some(n)
	}
	a := api.PatternNode{Kind: api.PatternRange, Lo: 'd', Hi: 'e'}
	x.Tokens[3].Literal, x.Tokens[3].Pattern, x.Tokens[3].Sample = "", api.Pattern{a}, "d"
	for i := range x.Nonterminals {
		x.Productions = append(x.Productions, api.Production{Name: "p" + strconv.Itoa(i), Left: i, Right: []api.Symbol{{Token: true, Index: i}}, If: all()})
	}
	for range 2 + g.IntN(9) {
		p := api.Production{Name: "p" + strconv.Itoa(len(x.Productions)), Left: g.IntN(len(x.Nonterminals)), If: all()}
		if g.IntN(3) == 0 {
			p.If = g.set(n)
		}
		for range pick(g, 0, 1, 1, 2, 2, 2, 3, 3, 4) {
			p.Right = append(p.Right, g.symbol(x, p.Left))
		}
		x.Productions = append(x.Productions, p)
		if facts.Check(x) != api.OK {
			x.Productions = x.Productions[:len(x.Productions)-1]
		}
	}
	return g.rules(x)
}

// rules returns a grammar with random levels and filters.
func (g generator) rules(x api.Grammar) api.Grammar {
	list := g.Perm(len(x.Productions))
	list = list[:g.IntN(len(list)+1)]
	for len(list) > 0 || g.IntN(5) == 0 {
		k := min(1+g.IntN(4), len(list))
		x.Levels = append(x.Levels, api.Level{Productions: slices.Clone(list[:k]), Assoc: g.IntN(4), If: g.presence(x)})
		list = list[k:]
	}
	for range g.IntN(6) {
		x.Filters = append(x.Filters, g.filter(x))
	}
	return x
}

// presence returns a set of configurations for a level or a filter.
func (g generator) presence(x api.Grammar) api.Diagram {
	if g.IntN(2) == 0 {
		return all()
	}
	return g.set(len(x.Conditions))
}

// filter returns a filter of any kind.
func (g generator) filter(x api.Grammar) api.Filter {
	f := api.Filter{Kind: pick(g, 1, 1, 2, 2, 2, 3, 4, 5), If: g.presence(x)}
	switch f.Kind {
	case api.FilterFollow, api.FilterPrecede:
		f.Left, f.Tokens = g.IntN(len(x.Nonterminals)), []int{g.IntN(2), 2 + g.IntN(2)}
		return f
	case api.FilterReserve:
		f.Token = slices.IndexFunc(x.Tokens, func(t api.Token) bool { return t.Literal == "" })
		f.Tokens = []int{0, 2}
		return f
	}
	for range 1000 {
		f.Parent, f.Child = g.IntN(len(x.Productions)), g.IntN(len(x.Productions))
		right := x.Productions[f.Parent].Right
		if len(right) == 0 {
			continue
		}
		f.At = g.IntN(len(right))
		if right[f.At] == (api.Symbol{Index: x.Productions[f.Child].Left}) {
			return f
		}
	}
	return api.Filter{Kind: api.FilterFollow, Tokens: []int{0}, If: f.If}
}

// operators returns a grammar of the operand a and random operators with tokens of their own, with random levels and filters.
func (g generator) operators(n int) api.Grammar {
	lines := []string{"E = a"}
	for _, s := range []string{"+", "-", "!", "?", "*", ":"}[:2+g.IntN(5)] {
		lines = append(lines, "E = "+pick(g, "E "+s+" E", "E "+s+" E", s+" E", "E "+s, "E E "+s, s+" E E", s))
	}
	if g.IntN(3) == 0 {
		lines = append(lines, "E = E E")
	}
	x := grammarOf(n, words("a", "+", "-", "!", "?", "*", ":"), lines...)
	x.Tokens[6] = api.Token{Name: "name", Pattern: api.Pattern{{Kind: api.PatternRange, Lo: ':', Hi: ':'}}, Sample: ":", If: all()}
	if g.IntN(3) == 0 {
		x.Family = g.some(n)
	}
	for range g.IntN(4) {
		x.Filters = append(x.Filters, g.spread(x)...)
	}
	return g.rules(x)
}

// spread returns spine filters of one production for several others.
func (g generator) spread(x api.Grammar) []api.Filter {
	var list []api.Filter
	p := g.IntN(len(x.Productions))
	for at, s := range x.Productions[p].Right {
		for q, child := range x.Productions {
			if s == (api.Symbol{Index: child.Left}) && g.IntN(2) == 0 {
				list = append(list, spine(p, at, q, g.presence(x)))
			}
		}
	}
	return list
}

// tree returns a tree of a nonterminal that tree.Shape accepts, if it is the start symbol, in a configuration. It has more than a few nodes only by chance, or if all productions are large.
func (g generator) tree(x api.Grammar, c api.Config, left, most int) api.Tree {
	gap := g.IntN(3)
	var made api.Tree
	var derive func(s api.Symbol)
	derive = func(s api.Symbol) {
		i, from := len(made), gap
		if s.Token {
			gap += 1 + g.IntN(2)
			made = append(made, api.Node{Production: -1, Token: s.Index, From: from, To: gap})
			gap += g.IntN(2)
			return
		}
		p := g.choose(x, c, s.Index, len(made) > most)
		made = append(made, api.Node{Production: p, Token: -1, From: from})
		for _, r := range x.Productions[p].Right {
			derive(r)
		}
		made[i].To = gap
	}
	derive(api.Symbol{Index: left})
	return made
}

// choose returns a production of a nonterminal that is present in a configuration; one without nonterminals if it has to be.
func (g generator) choose(x api.Grammar, c api.Config, left int, small bool) int {
	var list []int
	for i, p := range x.Productions {
		grows := slices.ContainsFunc(p.Right, func(s api.Symbol) bool { return !s.Token })
		if p.Left == left && diagram.Holds(p.If, c) && !(small && grows) {
			list = append(list, i)
			if grows {
				list = append(list, i, i)
			}
		}
	}
	return pick(g, list...)
}
