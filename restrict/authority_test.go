package restrict_test

import (
	"cmp"
	"math/big"
	"slices"

	"koine/api"
	"koine/diagram"
)

// The functions of this file follow the sentences of the chapter, in one configuration, with trees whose subtrees are inside of them.

// A nest is a subtree of a tree with its subtrees inside.
type nest struct {
	api.Node
	index int
	kids  []nest
}

func (n nest) isLeaf() bool { return n.Production == -1 }

// nestOf returns a shaped tree as a nest.
func nestOf(g api.Grammar, x api.Tree) nest {
	next := 0
	var fold func() nest
	fold = func() nest {
		n := nest{Node: x[next], index: next}
		next++
		if !n.isLeaf() {
			for range g.Productions[n.Production].Right {
				n.kids = append(n.kids, fold())
			}
		}
		return n
	}
	return fold()
}

// all calls a function for a nest and all that is inside.
func (n nest) all(visit func(n nest)) {
	visit(n)
	for _, k := range n.kids {
		k.all(visit)
	}
}

// gapsOf returns the offsets of the gaps of a plain text.
func gapsOf(p api.Plain) []int {
	var list []int
	for _, w := range p.Words {
		list = append(list, w.From)
	}
	return append(list, p.End)
}

// wordsBetween returns the words between two gaps.
func wordsBetween(p api.Plain, from, to int) []api.Word {
	gaps := gapsOf(p)
	i, j := slices.Index(gaps, from), slices.Index(gaps, to)
	if i < 0 || j < 0 || i >= j {
		return nil
	}
	return p.Words[i:j]
}

// words returns the words of a nest.
func (n nest) words(p api.Plain) []api.Word {
	if n.isLeaf() {
		return slices.DeleteFunc(slices.Clone(p.Words), func(w api.Word) bool { return w.From != n.From })
	}
	return wordsBetween(p, n.From, n.To)
}

// common reports whether two lists of tokens have one in common.
func common(a, b []int) bool {
	return slices.ContainsFunc(a, func(x int) bool { return slices.Contains(b, x) })
}

// violatesFilter reports whether a nest that is no leaf violates a filter of a kind, if it is present.
func (n nest) violatesFilter(g api.Grammar, p api.Plain, f api.Filter, kind int) bool {
	if f.Kind != kind || f.Left != g.Productions[n.Production].Left {
		return false
	}
	gap := slices.Index(gapsOf(p), n.To)
	if kind == api.FilterPrecede {
		gap = slices.Index(gapsOf(p), n.From) - 1
	}
	return gap >= 0 && gap < len(p.Words) && common(p.Words[gap].Tokens, f.Tokens)
}

// lineOf returns the offset at which the line of a word begins, which may be too large or too small for an int.
func lineOf(w api.Word) string {
	return new(big.Int).Sub(big.NewInt(int64(w.From)), big.NewInt(int64(w.Column))).String()
}

// violatesConstraint reports whether a nest violates a layout constraint of its production.
func (n nest) violatesConstraint(p api.Plain, c api.Constraint) bool {
	a, b := n.kids[c.A].words(p), n.kids[c.B].words(p)
	if len(a) == 0 || c.Kind != api.Offside && len(b) == 0 {
		return false
	}
	switch c.Kind {
	case api.Offside:
		return slices.ContainsFunc(a[1:], func(w api.Word) bool { return w.First && !(w.Column > a[0].Column) })
	case api.Align:
		return !(a[0].Column == b[0].Column)
	case api.Indent:
		return !(b[0].Column > a[0].Column)
	case api.SameLine:
		return lineOf(a[len(a)-1]) != lineOf(b[0])
	}
	panic("no kind of constraints")
}

// violationsOf returns the violations of a derivation tree.
func violationsOf(g api.Grammar, c api.Config, p api.Plain, x api.Tree) []api.Violation {
	var found []api.Violation
	nestOf(g, x).all(func(n nest) {
		if n.isLeaf() {
			return
		}
		for i, f := range g.Filters {
			if !diagram.Holds(f.If, c) {
				continue
			}
			if n.violatesFilter(g, p, f, api.FilterFollow) {
				found = append(found, follows(n.index, i))
			}
			if n.violatesFilter(g, p, f, api.FilterPrecede) {
				found = append(found, precedes(n.index, i))
			}
		}
		for i, l := range g.Productions[n.Production].Layout {
			if n.violatesConstraint(p, l) {
				found = append(found, lays(n.index, i))
			}
		}
	})
	slices.SortFunc(found, func(a, b api.Violation) int {
		return cmp.Or(cmp.Compare(a.Step, b.Step), cmp.Compare(a.Node, b.Node), cmp.Compare(a.Rule, b.Rule))
	})
	return found
}
