package scanner

import (
	"cmp"
	"slices"

	"koine/api"
	"koine/diagram"
	"koine/facts"
	"koine/sets"
)

// Check reports whether a scan is well-formed.
func Check(g api.Grammar, x api.Scan) api.Errno {
	if e := facts.Check(g); e != api.OK {
		return e
	}
	c := checker{Numbers: sets.New(), grammar: g, end: x.End}
	valid := within(x.End, 0, api.MaxText) && c.faults(x.Faults, x.Good) &&
		c.lexemes(x.Lexemes, api.Ordinary) && c.lexemes(x.Remarks, api.Remark) && c.apart(slices.Concat(x.Lexemes, x.Remarks))
	switch {
	case c.E != api.OK:
		return c.E
	case !valid:
		return api.ErrArg
	}
	return api.OK
}

// within reports whether n is a number from least to most.
func within(n, least, most int) bool { return least <= n && n <= most }

// fits reports whether a set is valid and depends on conditions of a grammar only.
func fits(g api.Grammar, d api.Diagram) bool {
	return diagram.Check(d) == api.OK && !slices.ContainsFunc(d.Nodes, func(b api.Branch) bool { return b.Var >= len(g.Conditions) })
}

// A checker checks the parts of a scan.
type checker struct {
	*sets.Numbers
	grammar api.Grammar
	end     int
	good    int
}

// some returns the number of a set, and whether it fits the grammar and is not empty.
func (c *checker) some(d api.Diagram) (int, bool) {
	if !fits(c.grammar, d) {
		return sets.Nothing, false
	}
	n := c.Number(d)
	return n, n != sets.Nothing
}

// faults reports whether the faults are valid, and leave the good configurations of the family.
func (c *checker) faults(list []api.Fault, good api.Diagram) bool {
	c.good = c.Number(c.grammar.Family)
	for i, f := range list {
		set, ok := c.some(f.If)
		if !ok || !within(f.At, 0, c.end-1) || i > 0 && !earlier(list[i-1], f) || !c.Subset(set, c.good) {
			return false
		}
		c.good = c.Without(c.good, set)
	}
	return diagram.Same(good, c.Diagram(c.good))
}

// earlier reports whether a fault comes before another one.
func earlier(a, b api.Fault) bool {
	return a.At < b.At || a.At == b.At && !a.Cut && b.Cut
}

// lexemes reports whether the elements of a list are valid, each by itself, given the class of their tokens.
func (c *checker) lexemes(list []api.Lexeme, class int) bool {
	for i, x := range list {
		if i > 0 && cmp.Or(cmp.Compare(list[i-1].From, x.From), cmp.Compare(list[i-1].To, x.To)) >= 0 {
			return false
		}
		if x.From < 0 || x.From >= x.To || x.To > c.end || !within(x.Column, 0, x.From) {
			return false
		}
		set, ok := c.some(x.If)
		if !ok || !c.Subset(set, c.good) || !c.choices(x.Choices, set, class) {
			return false
		}
	}
	return true
}

// choices reports whether the choices of a lexeme with a set are valid.
func (c *checker) choices(list []api.Choice, lexeme, class int) bool {
	left := lexeme // for remarks: the configurations without one of the choices so far
	for i, x := range list {
		if i > 0 && list[i-1].Token >= x.Token || !within(x.Token, 0, len(c.grammar.Tokens)-1) {
			return false
		}
		t := c.grammar.Tokens[x.Token]
		set, ok := c.some(x.If)
		if !ok || t.Class != class || !c.Subset(set, left) || !c.Subset(set, c.Number(t.If)) {
			return false
		}
		if class == api.Remark {
			left = c.Without(left, set)
		}
	}
	return class != api.Remark || left == sets.Nothing
}

// A span is the bytes of a lexeme, and the number of its set.
type span struct{ from, to, set int }

// apart reports whether no two of several valid lexemes have both a common byte and a common configuration.
func (c *checker) apart(list []api.Lexeme) bool {
	starts := make([]span, 0, len(list))
	for _, x := range list {
		starts = append(starts, span{x.From, x.To, c.Number(x.If)})
	}
	slices.SortFunc(starts, func(a, b span) int { return cmp.Compare(a.from, b.from) })
	ends := slices.Clone(starts)
	slices.SortFunc(ends, func(a, b span) int { return cmp.Compare(a.to, b.to) })
	open := sets.Nothing // the configurations that have a lexeme here
	for _, next := range starts {
		for ends[0].to <= next.from {
			open = c.Without(open, ends[0].set)
			ends = ends[1:]
		}
		if !c.Disjoint(open, next.set) {
			return false
		}
		open = c.Or(open, next.set)
	}
	return true
}
