package priority

import (
	"cmp"
	"slices"

	"koine/api"
)

// A search finds the violations of a tree that has the shape of a derivation tree.
type search struct {
	rules
	grammar api.Grammar
	tree    api.Tree
	places  []place
	below   []int // by productions: the last end of a spine from which a climb has met a node of it
	found   []api.Violation
}

// violations returns the violations of a tree in their order.
func (r rules) violations(g api.Grammar, t api.Tree) []api.Violation {
	s := search{rules: r, grammar: g, tree: t, places: placesOf(g, t), below: slices.Repeat([]int{none}, len(g.Productions))}
	for i, n := range t {
		if n.Production != none && !opensRight(g.Productions[n.Production]) {
			s.climb(i)
		}
	}
	slices.SortFunc(s.found, func(a, b api.Violation) int {
		return cmp.Or(cmp.Compare(a.Step, b.Step), cmp.Compare(a.Node, b.Node), cmp.Compare(a.Rule, b.Rule))
	})
	return s.found
}

// climb goes up from the end of a spine as far as nodes are last children, so that each node is met once in all climbs, and what was met before it in this one is the rest of its spine.
func (s *search) climb(end int) {
	for i := end; i > 0; i = s.places[i].parent {
		s.below[s.tree[i].Production] = end
		s.look(i, end)
		if parent := s.parent(i); s.places[i].at < len(s.grammar.Productions[parent].Right)-1 {
			return
		}
	}
}

// parent returns the production of the parent of a node.
func (s *search) parent(i int) int { return s.tree[s.places[i].parent].Production }

// look finds the violations of the parent of a node because of this child, the spine of which has an end.
func (s *search) look(i, end int) {
	node, at, parent := s.places[i].parent, s.places[i].at, s.parent(i)
	if rule, ok := s.child[clash{api.FilterChild, parent, at, s.tree[i].Production}]; ok {
		s.found = append(s.found, api.Violation{Step: api.StepChild, Node: node, Rule: rule})
	}
	for _, b := range s.spine[position{parent, at}] {
		if s.below[b.production] == end {
			s.found = append(s.found, api.Violation{Step: api.StepSpine, Node: node, Rule: b.rule})
		}
	}
}
