package grammar

import (
	"slices"

	"koine/api"
	"koine/diagram"
	"koine/pattern"
)

// Check returns the first error of a grammar, or OK if it is valid.
func Check(g api.Grammar) api.Errno {
	if large(g) {
		return api.ErrLarge
	}
	c := checker{Grammar: g, leveled: make([]bool, len(g.Productions))}
	first := api.OK
	each := func(n int, check func(i int) api.Errno) {
		for i := 0; i < n && first == api.OK; i++ {
			first = check(i)
		}
	}
	each(len(g.Conditions), c.condition)
	each(1, c.family)
	each(len(g.Tokens), c.token)
	each(len(g.Nonterminals), c.nonterminal)
	each(1, c.start)
	each(len(g.Productions), c.production)
	each(len(g.Levels), c.level)
	each(len(g.Filters), c.filter)
	return first
}

// large reports whether a grammar has too many elements.
func large(g api.Grammar) bool {
	return len(g.Conditions) > api.MaxConditions ||
		len(g.Tokens) > api.MaxTokens ||
		len(g.Nonterminals) > api.MaxProductions ||
		len(g.Productions) > api.MaxProductions ||
		len(g.Levels) > api.MaxProductions ||
		len(g.Filters) > api.MaxFilters ||
		slices.ContainsFunc(g.Productions, func(p api.Production) bool {
			return len(p.Right) > api.MaxSymbols || len(p.Layout) > api.MaxSymbols
		})
}

// A checker checks the elements of a grammar one by one, in their order: it keeps what the earlier ones are named, and which productions they have in a level. Each method returns the error of an element, or OK; it relies on the elements of earlier kinds.
type checker struct {
	api.Grammar
	conditionNames, tokenNames, nonterminalNames, productionNames nameSet
	leveled                                                       []bool
}

// unless returns an error unless a condition holds.
func unless(holds bool, e api.Errno) api.Errno {
	if holds {
		return api.OK
	}
	return e
}

func (c *checker) condition(i int) api.Errno {
	name := c.Conditions[i]
	return unless(identifier(name) && name != "true" && name != "false" && c.conditionNames.add(name), api.ErrFamily)
}

func (c *checker) family(int) api.Errno {
	return unless(c.fits(c.Family) && !diagram.Same(c.Family, diagram.Constant(false)), api.ErrFamily)
}

// fits reports whether a set of configurations is valid and depends on conditions of the grammar only.
func (c *checker) fits(d api.Diagram) bool {
	return diagram.Check(d) == api.OK && !slices.ContainsFunc(d.Nodes, func(b api.Branch) bool { return b.Var >= len(c.Conditions) })
}

func (c *checker) token(i int) api.Errno {
	t := c.Tokens[i]
	return unless(c.tokenNames.add(t.Name) && within(t.Class, api.Ordinary, api.Remark) && matched(t) && c.fits(t.If), api.ErrToken)
}

// matched reports whether a token has either a literal, or a pattern with a sample as its class requires.
func matched(t api.Token) bool {
	switch {
	case t.Literal != "":
		return len(t.Pattern) == 0 && t.Sample == ""
	case pattern.Check(t.Pattern) != api.OK:
		return false
	case t.Class == api.Ordinary:
		return t.Sample != "" && pattern.Matches(t.Pattern, t.Sample)
	}
	return t.Sample == ""
}

func (c *checker) nonterminal(i int) api.Errno {
	return unless(c.nonterminalNames.add(c.Nonterminals[i]), api.ErrSymbol)
}

func (c *checker) start(int) api.Errno {
	return unless(indexes(c.Start, c.Nonterminals), api.ErrSymbol)
}

// indexes reports whether i is the index of an element.
func indexes[T any](i int, list []T) bool { return i >= 0 && i < len(list) }

// within reports whether n is a number from least to most.
func within(n, least, most int) bool { return least <= n && n <= most }

func (c *checker) level(i int) api.Errno {
	l := c.Levels[i]
	for _, p := range l.Productions {
		if !indexes(p, c.leveled) || c.leveled[p] {
			return api.ErrFilter
		}
		c.leveled[p] = true
	}
	return unless(within(l.Assoc, api.AssocNone, api.AssocNever) && c.fits(l.If), api.ErrFilter)
}
