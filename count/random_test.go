package count_test

import (
	oldrand "math/rand"
	"math/rand/v2"
	"slices"
	"strconv"

	"koine/api"
	"koine/diagram"
	"koine/facts"
)

// A generator makes random arguments.
type generator struct{ *rand.Rand }

func seeded(k uint64) generator { return generator{rand.New(rand.NewPCG(12, k))} }

// pick returns one of several values.
func pick[T any](g generator, list ...T) T { return list[g.IntN(len(list))] }

// set returns a set of configurations of n conditions.
func (g generator) set(n int) api.Diagram {
	d := diagram.Constant(g.IntN(6) > 0)
	if n == 0 {
		return d
	}
	for range g.IntN(4) {
		x := is(g.IntN(n))
		switch g.IntN(4) {
		case 0:
			d = and(d, x)
		case 1:
			d = or(d, x)
		case 2:
			d = sure(diagram.Xor(d, x))
		case 3:
			d = and(d, not(x))
		}
	}
	return d
}

// production returns a production of a grammar that has its tokens and nonterminals.
func (g generator) production(x api.Grammar) api.Production {
	p := api.Production{Name: "p" + strconv.Itoa(len(x.Productions)), Left: g.IntN(len(x.Nonterminals)), If: all()}
	if g.IntN(2) == 0 {
		p.If = g.set(len(x.Conditions))
	}
	length := pick(g, 0, 1, 1, 2, 2, 2, 3, 3, 4)
	if len(x.Productions) < len(x.Nonterminals) && g.IntN(3) > 0 {
		p.Left, length = len(x.Productions), 0
		p.Right = []api.Symbol{{Token: true, Index: g.IntN(3)}}
	}
	for range length {
		s := api.Symbol{Token: g.IntN(5) < 2, Index: g.IntN(3)}
		if !s.Token {
			s.Index = g.IntN(len(x.Nonterminals))
		}
		p.Right = append(p.Right, s)
	}
	return p
}

// grammar returns a grammar with n conditions, in which no nonterminal derives itself. Its first three tokens are ordinary.
func (g generator) grammar(n int) api.Grammar {
	tokens := append(words("a", "b", "c"), api.Token{Name: "#", Class: api.Remark, Literal: "#", If: all()})
	x := api.Grammar{Conditions: names(n), Family: all(), Tokens: tokens, Nonterminals: []string{"S", "T", "U", "V"}[:1+g.IntN(4)]}
	x.Start = g.IntN(len(x.Nonterminals))
	if g.IntN(3) == 0 {
		x.Family = g.set(n)
	}
	if diagram.Same(x.Family, none()) {
		x.Family = all()
	}
	for i := range 3 {
		if g.IntN(3) == 0 {
			x.Tokens[i].If = g.set(n)
		}
	}
	if g.IntN(2) == 0 {
		// Words can be several tokens.
		a := api.PatternNode{Kind: api.PatternRange, Lo: 'a', Hi: 'c'}
		x.Tokens[2].Literal, x.Tokens[2].Pattern, x.Tokens[2].Sample = "", api.Pattern{a}, "c"
	}
	for range 2 + g.IntN(9) {
		p := g.production(x)
		x.Productions = append(x.Productions, p)
		if facts.Check(x) != api.OK {
			x.Productions = x.Productions[:len(x.Productions)-1]
		}
	}
	return x
}

// chains returns a grammar with n conditions, in which nonterminals lead to one another, in different directions in different configurations.
func (g generator) chains(n int) api.Grammar {
	x := api.Grammar{Conditions: names(n), Family: all(), Tokens: append(words("a", "b", "c"), api.Token{Name: "#", Class: api.Remark, Literal: "#", If: all()}), Nonterminals: []string{"S", "T", "U", "V"}}
	for i := range x.Nonterminals {
		for _, t := range []int{i % 3, g.IntN(3)} {
			x.Productions = append(x.Productions, api.Production{Name: "p" + strconv.Itoa(len(x.Productions)), Left: i, Right: []api.Symbol{{Token: true, Index: t}}, If: all()})
		}
	}
	add := func(left int, where api.Diagram, right ...api.Symbol) {
		x.Productions = append(x.Productions, api.Production{Name: "p" + strconv.Itoa(len(x.Productions)), Left: left, Right: right, If: where})
		if diagram.Same(where, none()) || facts.Check(x) != api.OK {
			x.Productions = x.Productions[:len(x.Productions)-1]
		}
	}
	for range 8 {
		a, b, where := g.IntN(4), g.IntN(4), g.set(n)
		if n > 0 {
			where = sure(diagram.Xor(where, is(g.IntN(n))))
		}
		add(a, where, api.Symbol{Index: b})
		add(b, not(where), api.Symbol{Index: a})
		switch g.IntN(4) {
		case 0:
			add(a, where, api.Symbol{Index: g.IntN(4)}, api.Symbol{Index: b})
		case 1:
			add(g.IntN(4), where)
		}
	}
	return x
}

// source returns a source with some segments for n conditions.
func (g generator) source(n, segments int) api.Source {
	var s api.Source
	for range g.IntN(segments + 1) {
		from := len(s.Text)
		for range g.IntN(5) {
			s.Text += pick(g, "a", "a", "a", "b", "b", "b", "c", "c", " ", "#")
		}
		if g.IntN(20) == 0 {
			s.Text += "!"
		}
		s.Text += "\n"
		s.Segments = append(s.Segments, api.Segment{From: from, To: len(s.Text), If: g.set(n)})
	}
	return s
}

// forest returns a forest of a few nodes with random alternatives whose positions are consistent. It need not be sound. Its sets depend on n conditions.
func (g generator) forest(n int) api.Forest {
	var f api.Forest
	const gaps = 4
	for range 2 + g.IntN(9) {
		from := g.IntN(gaps)
		m := node(g.IntN(2), from, from+g.IntN(gaps-from))
		m.Copy = g.IntN(2)
		f.Nodes = append(f.Nodes, m)
	}
	compare := func(a, b api.ForestNode) int {
		return slices.Compare([]int{a.From, a.To, a.Left, a.Copy}, []int{b.From, b.To, b.Left, b.Copy})
	}
	slices.SortFunc(f.Nodes, compare)
	f.Nodes = slices.CompactFunc(f.Nodes, func(a, b api.ForestNode) bool { return compare(a, b) == 0 })
	wild := g.IntN(4) == 0
	for i := range f.Nodes {
		m := &f.Nodes[i]
		for range 1 + g.IntN(3) {
			if kids, ok := g.kids(f, i, wild); ok {
				m.Alternatives = append(m.Alternatives, alternative(g.some(n), g.IntN(2), kids...))
			}
		}
		slices.SortFunc(m.Alternatives, compareAlternatives)
		m.Alternatives = slices.CompactFunc(m.Alternatives, sameKids)
	}
	for i := range f.Nodes {
		if g.IntN(len(f.Nodes)) < 2 {
			f.Roots = append(f.Roots, root(i, g.some(n)))
		}
	}
	return f
}

// some returns a set of configurations of n conditions that is not empty.
func (g generator) some(n int) api.Diagram {
	if d := g.set(n); !diagram.Same(d, none()) {
		return d
	}
	return all()
}

// kids returns kids of a node, and whether some have been found. Unless they are wild, a kid between the same gaps comes behind the node.
func (g generator) kids(f api.Forest, node int, wild bool) ([]api.Kid, bool) {
	var list []api.Kid
	from, to := f.Nodes[node].From, f.Nodes[node].To
	at, apart := from, false
	for range 4 {
		if (at == to || apart && at < to) && g.IntN(3) == 0 {
			break
		}
		var next []api.Kid
		for i, m := range f.Nodes {
			if m.To <= to && (m.From == at || apart && m.From > at) && (wild || i > node || m.From > from || m.To < to) {
				next = append(next, kid(i, m.From, m.To))
			}
		}
		for begin := at; begin < to && (begin == at || apart); begin++ {
			for end := begin + 1; end <= to; end++ {
				next = append(next, leaf(g.IntN(2), begin, end))
			}
		}
		if len(next) == 0 {
			break
		}
		k := pick(g, next...)
		list = append(list, k)
		at, apart = k.To, k.Node < 0
	}
	return list, at == to || apart && at < to
}

// knots returns a forest of nodes between the same gaps, with kids in an order that depends on the configuration of n conditions. All of its nodes need not be reached.
func (g generator) knots(n int) api.Forest {
	var f api.Forest
	count := 2 + g.IntN(5)
	var orders [][]int // by configurations
	for range 1 << n {
		orders = append(orders, g.Perm(count))
	}
	before := func(i, k int) api.Diagram {
		var list []api.Config
		for c, order := range orders {
			if order[i] < order[k] {
				list = append(list, api.Config(c))
			}
		}
		return setOf(n, list)
	}
	for i := range count {
		m := copyNumber(i, node(0, 3, 3))
		for p := range 2 {
			where, kids := g.some(n), []api.Kid{}
			for range g.IntN(3) {
				if k := g.IntN(count); !diagram.Same(and(where, before(i, k)), none()) {
					where = and(where, before(i, k))
					kids = append(kids, kid(k, 3, 3))
				}
			}
			m.Alternatives = append(m.Alternatives, alternative(where, p, kids...))
		}
		f.Nodes = append(f.Nodes, m)
	}
	f.Roots = []api.Root{root(g.IntN(count), g.some(n))}
	return f
}

// pruned returns a forest without the nodes that are not reached.
func pruned(f api.Forest) api.Forest {
	for !isReached(f) {
		reached := map[int]bool{}
		for _, r := range f.Roots {
			reached[r.Node] = true
		}
		for range f.Nodes {
			for i, n := range f.Nodes {
				for _, a := range n.Alternatives {
					for _, k := range a.Kids {
						reached[k.Node] = reached[k.Node] || reached[i]
					}
				}
			}
		}
		numbers := map[int]int{-1: -1}
		var x api.Forest
		for i, n := range f.Nodes {
			if reached[i] {
				numbers[i] = len(x.Nodes)
				x.Nodes = append(x.Nodes, n)
			}
		}
		for _, n := range x.Nodes {
			for _, a := range n.Alternatives {
				for j, k := range a.Kids {
					a.Kids[j].Node = numbers[k.Node]
				}
			}
		}
		for _, r := range f.Roots {
			x.Roots = append(x.Roots, root(numbers[r.Node], r.If))
		}
		f = x
	}
	return f
}

// bigRand returns a source of random big numbers.
func bigRand(g generator) *oldrand.Rand { return oldrand.New(oldrand.NewSource(g.Int64())) }
