package grammar

import (
	"slices"

	"koine/api"
)

// The kinds of declared names, and the values of the field Allowed of a scope.
const (
	leastDeclared = 1
	mostDeclared  = 7
	mostAllowed   = 1<<(mostDeclared+1) - 1
)

func (c *checker) production(i int) api.Errno {
	p := c.Productions[i]
	if !c.refers(p) {
		return api.ErrSymbol
	}
	valid := c.productionNames.add(p.Name) && c.fits(p.If) && within(p.Rank, api.Avoided, api.Preferred) &&
		constrained(p) && scoped(p) && (!p.Bracket || encloses(p))
	return unless(valid, api.ErrProduction)
}

// refers reports whether the symbols of a production are nonterminals and ordinary tokens of the grammar.
func (c *checker) refers(p api.Production) bool {
	return indexes(p.Left, c.Nonterminals) && !slices.ContainsFunc(p.Right, func(s api.Symbol) bool { return !c.symbol(s) })
}

func (c *checker) symbol(s api.Symbol) bool {
	if s.Token {
		return c.ordinary(s.Index)
	}
	return indexes(s.Index, c.Nonterminals)
}

// ordinary reports whether i is the index of an ordinary token.
func (c *checker) ordinary(i int) bool {
	return indexes(i, c.Tokens) && c.Tokens[i].Class == api.Ordinary
}

// constrained reports whether the layout constraints of a production are valid.
func constrained(p api.Production) bool {
	return !slices.ContainsFunc(p.Layout, func(l api.Constraint) bool {
		return !within(l.Kind, api.Offside, api.SameLine) || !indexes(l.A, p.Right) || !indexes(l.B, p.Right) || l.Kind == api.Offside && l.B != 0
	})
}

// scoped reports whether the scope entry of a production is valid.
func scoped(p api.Production) bool {
	s := p.Scope
	return named(p, s.Declares, s.Kind, leastDeclared, mostDeclared) && named(p, s.Uses, s.Allowed, 0, mostAllowed)
}

// named reports whether k is the number of a token of a production's right side and detail is from least to most, or both are 0.
func named(p api.Production, k, detail, least, most int) bool {
	if k == 0 {
		return detail == 0
	}
	// A k that is out of range can be the least int; k - 1 is then the greatest one, which is no index either.
	return indexes(k-1, p.Right) && p.Right[k-1].Token && within(detail, least, most)
}

// encloses reports whether a production has the form that a bracket production must have.
func encloses(p api.Production) bool {
	r := p.Right
	return len(r) == 3 && r[0].Token && r[1] == api.Symbol{Index: p.Left} && r[2].Token &&
		p.Rank == api.Neutral && len(p.Layout) == 0 && p.Scope == api.Scope{}
}
