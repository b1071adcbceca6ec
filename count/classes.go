package count

import (
	"slices"

	"koine/api"
	"koine/natural"
	"koine/sets"
	"koine/sound"
)

// A classing has the numbers of trees of a sound forest for the configurations of a family.
type classing struct {
	*tables
	forest  api.Forest
	family  int32
	first   []int   // by nodes: how many alternatives those before have
	present []int32 // by alternatives of all nodes: the sets in which they are present, or, as soon as these are known, also their nodes reached
	roots   []int32 // the sets of the roots
	reached []int32 // by nodes: the sets in which they are reached
	trees   []int32 // by nodes: the numbers of trees where they are reached
	waiting []int32 // by nodes of knots: the sets in which the numbers of trees are not final
}

// newClassing returns a classing in which nothing has been counted.
func newClassing(f api.Forest, family api.Diagram) *classing {
	w := &classing{tables: newTables(), forest: f, first: make([]int, 0, len(f.Nodes)), present: make([]int32, 0, len(f.Nodes))}
	w.family = w.set(family)
	for _, n := range f.Nodes {
		w.first = append(w.first, len(w.present))
		for _, a := range n.Alternatives {
			w.present = append(w.present, w.set(a.If))
		}
	}
	for _, r := range f.Roots {
		w.roots = append(w.roots, w.times(w.family, w.set(r.If)))
	}
	w.reached, w.trees, w.waiting = make([]int32, len(f.Nodes)), make([]int32, len(f.Nodes)), make([]int32, len(f.Nodes))
	return w
}

// classes returns the numbers of trees with their configurations.
func (w *classing) classes(list []sound.Step) ([]api.Counted, api.Errno) {
	w.reach(list)
	for _, s := range list {
		w.count(s)
		if w.e != api.OK {
			return nil, w.e
		}
	}
	total := int32(zero)
	for i, r := range w.forest.Roots {
		total = w.plus(total, w.times(w.roots[i], w.trees[r.Node]))
	}
	total = w.within(total, w.family)
	if w.large[total] {
		w.e = api.ErrLarge
	}
	if w.e != api.OK {
		return nil, w.e
	}
	return w.listed(total)
}

// reach finds where the nodes and their alternatives are reached.
func (w *classing) reach(list []sound.Step) {
	enter := func(i int, set int32) bool { // whether these are more configurations than before
		more := w.or(w.reached[i], set)
		if w.e != api.OK || more == w.reached[i] {
			return false
		}
		w.reached[i] = more
		return true
	}
	for i, r := range w.forest.Roots {
		enter(r.Node, w.roots[i])
	}
	for _, s := range slices.Backward(list) {
		s.Reversed().Settle(func(i int, again func(i int)) {
			for k, a := range w.forest.Nodes[i].Alternatives {
				set := w.times(w.reached[i], w.present[w.first[i]+k])
				for _, kid := range a.Kids {
					if kid.Node != none && enter(kid.Node, set) && s.Knots(kid.Node) {
						again(kid.Node)
					}
				}
			}
		})
	}
	for i, n := range w.forest.Nodes {
		for k := range n.Alternatives {
			w.present[w.first[i]+k] = w.times(w.reached[i], w.present[w.first[i]+k])
		}
		w.waiting[i] = w.reached[i]
	}
}

// count finds how many trees the nodes of a step have.
func (w *classing) count(s sound.Step) {
	s.Settle(func(i int, again func(i int)) {
		// In a knot, a number is computed again only where those of the kids have become final.
		if w.e != api.OK || s.Knots(i) && !w.proceeds(s, i) {
			return
		}
		w.trees[i] = zero
		for k, a := range w.forest.Nodes[i].Alternatives {
			number := w.present[w.first[i]+k]
			for _, kid := range a.Kids {
				if kid.Node != none {
					number = w.times(number, w.trees[kid.Node])
				}
			}
			w.trees[i] = w.plus(w.trees[i], number)
		}
		if w.large[w.trees[i]] {
			w.e = api.ErrLarge
		}
		for _, parent := range s.Above(i) {
			again(parent)
		}
	})
}

// proceeds reports whether a node of a knot waits for its kids in less configurations than before.
func (w *classing) proceeds(s sound.Step, i int) bool {
	set := int32(zero)
	for k, a := range w.forest.Nodes[i].Alternatives {
		for _, kid := range a.Kids {
			if s.Knots(kid.Node) {
				set = w.or(set, w.times(w.present[w.first[i]+k], w.waiting[kid.Node]))
			}
		}
	}
	before := w.waiting[i]
	w.waiting[i] = set
	return set != before
}

// A part is an end of a table, and the number of the set in which the table has this end.
type part struct {
	end int32
	set int
}

// A division finds the parts of tables, ordered by their ends.
type division struct {
	*tables
	*sets.Numbers
	parts *memo[int32, []part]
}

// listed returns the numbers of a table with their configurations.
func (w *classing) listed(table int32) ([]api.Counted, api.Errno) {
	d := division{tables: w.tables, Numbers: sets.New()}
	d.parts = newMemo(d.divided)
	var list []api.Counted
	for _, p := range d.parts.of(table) {
		if p.end != outside {
			list = append(list, api.Counted{N: w.number(p.end), If: d.Diagram(p.set)})
		}
	}
	if d.E != api.OK {
		return nil, d.E
	}
	slices.SortFunc(list, func(a, b api.Counted) int { return natural.Compare(a.N, b.N) })
	return list, api.OK
}

// divided returns the parts of a table.
func (d *division) divided(table int32) []part {
	x := d.entries[table]
	if x.condition == end {
		return []part{{table, sets.Everything}}
	}
	low, high := d.parts.of(x.low), d.parts.of(x.high)
	var list []part
	for len(low) > 0 || len(high) > 0 {
		p := part{end: outside}
		without, with := sets.Nothing, sets.Nothing
		switch {
		case len(high) == 0 || len(low) > 0 && low[0].end < high[0].end:
			p.end = low[0].end
		default:
			p.end = high[0].end
		}
		if len(low) > 0 && low[0].end == p.end {
			without, low = low[0].set, low[1:]
		}
		if len(high) > 0 && high[0].end == p.end {
			with, high = high[0].set, high[1:]
		}
		p.set = d.Choice(int(x.condition), without, with)
		list = append(list, p)
	}
	return list
}
