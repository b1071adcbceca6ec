package priority

import (
	"cmp"
	"maps"
	"slices"

	"koine/api"
	"koine/sets"
)

// A clash is what a conflict forbids. Two conflicts of a grammar differ in it.
type clash struct{ kind, parent, at, child int }

func (a clash) compare(b clash) int {
	return cmp.Or(cmp.Compare(a.kind, b.kind), cmp.Compare(a.parent, b.parent), cmp.Compare(a.at, b.at), cmp.Compare(a.child, b.child))
}

// A collection has the conflicts of a valid grammar that have been found.
type collection struct {
	api.Grammar
	sets   *sets.Numbers
	family int
	level  []int         // by levels: where it is present
	where  map[clash]int // where a conflict is present, which is not nowhere
}

func newCollection(g api.Grammar) *collection {
	c := &collection{Grammar: g, sets: sets.New(), where: map[clash]int{}}
	c.family = c.sets.Number(g.Family)
	for _, l := range g.Levels {
		c.level = append(c.level, c.sets.Number(l.If))
	}
	return c
}

// add adds a conflict in a part of the family.
func (c *collection) add(x clash, where int) {
	if where != sets.Nothing {
		c.where[x] = c.sets.Or(c.where[x], where)
	}
}

// failed reports whether the conflicts that have been found are too many, or too large, whatever else there is.
func (c *collection) failed() bool {
	return c.sets.E != api.OK || len(c.where) > api.MaxFilters
}

// addLevels adds the filters of the levels.
func (c *collection) addLevels() {
	levels := make([]int, len(c.Productions))
	for p := range levels {
		levels[p] = none
	}
	for i, l := range c.Levels {
		for _, p := range l.Productions {
			levels[p] = i
		}
	}
	for p, i := range levels {
		for q, j := range levels {
			if i != none && i <= j && !c.failed() {
				c.addPair(operator{p, i}, operator{q, j})
			}
		}
	}
}

// An operator is a production of a level.
type operator struct{ production, level int }

// addPair adds the filters that forbid q as a child of p, where q's level is that of p or a later one.
func (c *collection) addPair(p, q operator) {
	parent, child := c.Productions[p.production], c.Productions[q.production]
	if len(parent.Right) == 0 {
		return
	}
	last := len(parent.Right) - 1
	left := api.Symbol{Index: child.Left}
	atFirst, atLast := c.forbids(p.level, q.level)
	if atFirst && parent.Right[0] == left && opensRight(child) {
		c.add(clash{api.FilterChild, p.production, 0, q.production}, c.common(p.level, q.level))
	}
	if atLast && parent.Right[last] == left && opensLeft(child) {
		c.add(clash{api.FilterChild, p.production, last, q.production}, c.common(p.level, q.level))
	}
}

// forbids reports at which ends an operator of level i has no competing operators of level j, which is the same level or a later one.
func (c *collection) forbids(i, j int) (atFirst, atLast bool) {
	assoc := c.Levels[i].Assoc
	if i < j || assoc == api.AssocNever {
		return true, true
	}
	return assoc == api.AssocRight, assoc == api.AssocLeft
}

// common returns where two levels are present in the family.
func (c *collection) common(i, j int) int {
	return c.sets.And(c.sets.And(c.level[i], c.level[j]), c.family)
}

// opensLeft reports whether a production ends openly on the left.
func opensLeft(p api.Production) bool {
	return len(p.Right) > 0 && !p.Right[0].Token
}

// opensRight reports whether a production ends openly on the right.
func opensRight(p api.Production) bool {
	return len(p.Right) > 0 && !p.Right[len(p.Right)-1].Token
}

// addFilters adds the filters that the grammar declares.
func (c *collection) addFilters() {
	for _, f := range c.Filters {
		if f.Kind == api.FilterChild || f.Kind == api.FilterSpine {
			c.add(clash{f.Kind, f.Parent, f.At, f.Child}, c.sets.And(c.sets.Number(f.If), c.family))
		}
	}
}

// filters returns the conflicts in their order, or ErrLarge.
func (c *collection) filters() ([]api.Filter, api.Errno) {
	if c.failed() {
		return nil, api.ErrLarge
	}
	list := make([]api.Filter, 0, len(c.where))
	for _, x := range slices.SortedFunc(maps.Keys(c.where), clash.compare) {
		list = append(list, api.Filter{Kind: x.kind, Parent: x.parent, At: x.at, Child: x.child, If: c.sets.Diagram(c.where[x])})
	}
	return list, api.OK
}
