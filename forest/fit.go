package forest

import (
	"slices"

	"koine/api"
	"koine/sets"
)

// A fitting compares the parts of a forest that is sound but for circles with a valid grammar.
type fitting struct {
	*sets.Numbers
	grammar     api.Grammar
	family      int
	productions []int // the sets in which they are present
	tokens      []int
}

// fits reports whether a forest that is sound but for circles fits a valid grammar.
func fits(g api.Grammar, f api.Forest) bool {
	n := sets.New()
	c := fitting{Numbers: n, grammar: g, family: n.Number(g.Family)}
	for _, p := range g.Productions {
		c.productions = append(c.productions, n.Number(p.If))
	}
	for _, t := range g.Tokens {
		c.tokens = append(c.tokens, n.Number(t.If))
	}
	for _, n := range f.Nodes {
		for _, a := range n.Alternatives {
			if !c.alternative(f, n.Left, a) {
				return false
			}
		}
	}
	return !slices.ContainsFunc(f.Roots, func(r api.Root) bool {
		_, ok := c.inFamily(r.If)
		return !ok || f.Nodes[r.Node].Left != g.Start
	})
}

// alternative reports whether an alternative of a node of a nonterminal fits.
func (c *fitting) alternative(f api.Forest, left int, a api.Alternative) bool {
	if a.Production >= len(c.grammar.Productions) {
		return false
	}
	p := &c.grammar.Productions[a.Production]
	set, ok := c.inFamily(a.If)
	if p.Left != left || len(p.Right) != len(a.Kids) || !ok || !c.Subset(set, c.productions[a.Production]) {
		return false
	}
	for i, k := range a.Kids {
		if symbol(f, k) != p.Right[i] || k.Node == none && !c.Subset(set, c.tokens[k.Token]) {
			return false
		}
	}
	return true
}

// symbol returns the symbol of a kid.
func symbol(f api.Forest, k api.Kid) api.Symbol {
	if k.Node == none {
		return api.Symbol{Token: true, Index: k.Token}
	}
	return api.Symbol{Index: f.Nodes[k.Node].Left}
}

// inFamily returns the number of a valid set, and whether it is a subset of the family that depends on conditions of the grammar only.
func (c *fitting) inFamily(d api.Diagram) (int, bool) {
	if slices.ContainsFunc(d.Nodes, func(b api.Branch) bool { return b.Var >= len(c.grammar.Conditions) }) {
		return sets.Nothing, false
	}
	set := c.Number(d)
	return set, c.Subset(set, c.family)
}
