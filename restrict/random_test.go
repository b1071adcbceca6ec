package restrict_test

import (
	"math"
	"math/rand/v2"
	"slices"
	"strconv"

	"koine/api"
	"koine/diagram"
	"koine/facts"
	"koine/grammar"
)

// A generator makes random arguments.
type generator struct{ *rand.Rand }

func seeded(k uint64) generator { return generator{rand.New(rand.NewPCG(14, k))} }

// pick returns one of several values.
func pick[T any](g generator, list ...T) T { return list[g.IntN(len(list))] }

// family returns the configurations of a grammar with few conditions.
func family(g api.Grammar) []api.Config {
	list, complete := grammar.Configs(g, 100)
	if !complete {
		panic("too many configurations")
	}
	return list
}

// set returns a set of configurations of n conditions.
func (g generator) set(n int) api.Diagram {
	d := diagram.Constant(g.IntN(6) > 0)
	if n == 0 {
		return d
	}
	for range g.IntN(4) {
		x := is(g.IntN(n))
		switch g.IntN(4) {
		case 0:
			d = and(d, x)
		case 1:
			d = or(d, x)
		case 2:
			d = sure(diagram.Xor(d, x))
		case 3:
			d = and(d, not(x))
		}
	}
	return d
}

// some returns a set of configurations of n conditions that is not empty.
func (g generator) some(n int) api.Diagram {
	for {
		if d := g.set(n); !diagram.Same(d, none()) {
			return d
		}
	}
}

// symbol returns a token or a nonterminal.
func (g generator) symbol(x api.Grammar) api.Symbol {
	if g.IntN(5) < 2 {
		return api.Symbol{Token: true, Index: g.IntN(4)}
	}
	return api.Symbol{Index: g.IntN(len(x.Nonterminals))}
}

// grammar returns a grammar with n conditions, constraints and filters, in which no nonterminal derives itself, and each one derives its own token everywhere.
func (g generator) grammar(n int) api.Grammar {
	x := api.Grammar{Conditions: names(n), Family: all(), Tokens: words("a", "b", "c", "d"), Nonterminals: []string{"S", "T", "U"}[:1+g.IntN(3)]}
	x.Start = g.IntN(len(x.Nonterminals))
	if g.IntN(3) == 0 {
		x.Family = g.some(n)
	}
	x.Tokens[3].Literal, x.Tokens[3].Pattern, x.Tokens[3].Sample = "", api.Pattern{{Kind: api.PatternRange, Lo: 'b', Hi: 'e'}}, "d"
	for i := range x.Nonterminals {
		x.Productions = append(x.Productions, api.Production{Name: "p" + strconv.Itoa(i), Left: i, Right: []api.Symbol{{Token: true, Index: i}}, If: all()})
	}
	for range 2 + g.IntN(9) {
		p := api.Production{Name: "p" + strconv.Itoa(len(x.Productions)), Left: g.IntN(len(x.Nonterminals)), If: all()}
		if g.IntN(3) == 0 {
			p.If = g.set(n)
		}
		for range pick(g, 0, 1, 2, 2, 2, 3, 3, 4, 16) {
			p.Right = append(p.Right, g.symbol(x))
		}
		p.Layout = g.layout(len(p.Right))
		x.Productions = append(x.Productions, p)
		if facts.Check(x) != api.OK {
			x.Productions = x.Productions[:len(x.Productions)-1]
		}
	}
	for range g.IntN(6) {
		x.Filters = append(x.Filters, g.filter(x))
	}
	return x
}

// layout returns constraints between n children.
func (g generator) layout(n int) []api.Constraint {
	if n == 0 {
		return nil
	}
	var list []api.Constraint
	for range g.IntN(5) {
		c := api.Constraint{Kind: 1 + g.IntN(4), A: g.IntN(n), B: g.IntN(n)}
		if c.Kind == api.Offside {
			c.B = 0
		}
		list = append(list, c)
	}
	return list
}

// presence returns a set of configurations for a filter.
func (g generator) presence(x api.Grammar) api.Diagram {
	if g.IntN(2) == 0 {
		return all()
	}
	return g.set(len(x.Conditions))
}

// filter returns a filter of any kind but FilterChild and FilterSpine.
func (g generator) filter(x api.Grammar) api.Filter {
	f := api.Filter{Kind: pick(g, api.FilterFollow, api.FilterFollow, api.FilterPrecede, api.FilterPrecede, api.FilterReserve), If: g.presence(x)}
	if f.Kind == api.FilterReserve {
		f.Token, f.Tokens = 3, []int{0, 2}
		return f
	}
	f.Left, f.Tokens = g.IntN(len(x.Nonterminals)), g.tokens(g.IntN(4))
	return f
}

// tokens returns a list of ordinary tokens in which a given one is.
func (g generator) tokens(token int) []int {
	var list []int
	for i := range 4 {
		if i == token || g.IntN(3) == 0 {
			list = append(list, i)
		}
	}
	return list
}

// A shape is a tree without positions: for each node a production, or for a leaf -1 and a token.
type shape []api.Node

// shape returns a tree of the start symbol in a configuration. It has more than a few nodes only by chance, or if all productions are large.
func (g generator) shape(x api.Grammar, c api.Config, most int) shape {
	var made shape
	var derive func(s api.Symbol)
	derive = func(s api.Symbol) {
		if s.Token {
			made = append(made, api.Node{Production: -1, Token: s.Index})
			return
		}
		p := g.choose(x, c, s.Index, len(made) > most)
		made = append(made, api.Node{Production: p, Token: -1})
		for _, r := range x.Productions[p].Right {
			derive(r)
		}
	}
	derive(api.Symbol{Index: x.Start})
	return made
}

// choose returns a production of a nonterminal that is present in a configuration; one without nonterminals if it has to be.
func (g generator) choose(x api.Grammar, c api.Config, left int, small bool) int {
	var list []int
	for i, p := range x.Productions {
		grows := slices.ContainsFunc(p.Right, func(s api.Symbol) bool { return !s.Token })
		if p.Left == left && diagram.Holds(p.If, c) && !(small && grows) {
			list = append(list, i)
			if grows {
				list = append(list, i, i)
			}
		}
	}
	return pick(g, list...)
}

// tree returns a derivation tree in a configuration, and its plain text.
func (g generator) tree(x api.Grammar, c api.Config, most int) (api.Plain, api.Tree) {
	s := g.shape(x, c, most)
	var tokens []int
	for _, n := range s {
		if n.Production < 0 {
			tokens = append(tokens, n.Token)
		}
	}
	p := g.text(tokens)
	if g.IntN(4) == 0 {
		g.scatter(p)
	}
	return p, placed(x, s, p)
}

// text returns a plain text of words that can be the given tokens, on some lines.
func (g generator) text(tokens []int) api.Plain {
	p := api.Plain{Stuck: -1}
	line, first := 0, true
	skip := func() {
		p.End += g.IntN(2)
		for range pick(g, 0, 0, 1, 1, 2) {
			p.End += g.IntN(2)
			line, first = p.End+1, true
			p.End += 1 + g.IntN(4)
		}
		if g.IntN(6) == 0 {
			p.Remarks = append(p.Remarks, api.Word{From: p.End, To: p.End + 2, Column: p.End - line, First: first, Tokens: []int{6}})
			p.End, first = p.End+2, false
		}
	}
	for _, token := range tokens {
		skip()
		w := api.Word{From: p.End, To: p.End + 1 + g.IntN(2), Column: p.End - line, First: first, Tokens: g.tokens(token)}
		p.Words = append(p.Words, w)
		p.End, first = w.To, false
	}
	skip()
	return p
}

// scatter changes the columns and the beginnings of the lines of a plain text, so that they have nothing to do with the offsets.
func (g generator) scatter(p api.Plain) {
	for i := range p.Words {
		w := &p.Words[i]
		w.First = g.IntN(2) == 0
		w.Column = pick(g, w.Column, w.From, g.IntN(5), g.IntN(5)-5, math.MinInt64+w.From, math.MaxInt64-g.IntN(2))
	}
}

// placed returns a shape as a tree of a plain text.
func placed(x api.Grammar, s shape, p api.Plain) api.Tree {
	gaps := gapsOf(p)
	made := slices.Clone(api.Tree(s))
	next, gap := 0, 0
	var put func()
	put = func() {
		n := &made[next]
		next++
		if n.Production < 0 {
			n.From, n.To = p.Words[gap].From, p.Words[gap].To
			gap++
			return
		}
		n.From = gaps[gap]
		for range x.Productions[n.Production].Right {
			put()
		}
		n.To = gaps[gap]
	}
	put()
	return made
}
