// Package sound decides whether forests are sound, and puts their nodes in an order in which kids come first. It is no layer; several layers use it.
package sound

import (
	"cmp"
	"slices"

	"koine/api"
	"koine/diagram"
)

// none is the Node of a kid that is a leaf, and the Token of any other kid.
const none = -1

// Formed reports whether a forest is sound but for circles.
func Formed(f api.Forest) bool {
	if len(f.Nodes) > api.MaxForest {
		return false
	}
	for i, n := range f.Nodes {
		if i > 0 && compareNodes(f.Nodes[i-1], n) >= 0 || n.Left < 0 || n.From < 0 || n.Copy < 0 || n.From > n.To || len(n.Alternatives) == 0 {
			return false
		}
		for k, a := range n.Alternatives {
			if k > 0 && CompareAlternatives(n.Alternatives[k-1], a) >= 0 || !proper(f, n, a) {
				return false
			}
		}
	}
	for i, r := range f.Roots {
		if i > 0 && f.Roots[i-1].Node >= r.Node || !has(f, r.Node) || !some(r.If) {
			return false
		}
	}
	return allReached(f)
}

// has reports whether a forest has a node with an index.
func has(f api.Forest, i int) bool { return 0 <= i && i < len(f.Nodes) }

// some reports whether a set is valid and not empty.
func some(d api.Diagram) bool {
	return diagram.Check(d) == api.OK && !diagram.Same(d, diagram.Constant(false))
}

func compareNodes(a, b api.ForestNode) int {
	return cmp.Or(cmp.Compare(a.From, b.From), cmp.Compare(a.To, b.To), cmp.Compare(a.Left, b.Left), cmp.Compare(a.Copy, b.Copy))
}

// CompareAlternatives says in which order two alternatives of a node are.
func CompareAlternatives(a, b api.Alternative) int {
	if a.Production != b.Production {
		return cmp.Compare(a.Production, b.Production)
	}
	return slices.CompareFunc(a.Kids, b.Kids, compareKids)
}

func compareKids(a, b api.Kid) int {
	return cmp.Or(cmp.Compare(a.From, b.From), cmp.Compare(a.To, b.To), cmp.Compare(a.Token, b.Token), cmp.Compare(a.Node, b.Node))
}

// proper reports whether an alternative of a node is as it should be apart from the other ones.
func proper(f api.Forest, n api.ForestNode, a api.Alternative) bool {
	if a.Production < 0 || !some(a.If) {
		return false
	}
	at, apart := n.From, false // where the next kid begins; apart: or behind it
	meets := func(offset int) bool { return offset == at || apart && offset > at }
	for _, k := range a.Kids {
		if k.Node == none {
			if k.Token < 0 || k.From < 0 || k.From >= k.To {
				return false
			}
		} else if k.Token != none || !has(f, k.Node) || f.Nodes[k.Node].From != k.From || f.Nodes[k.Node].To != k.To {
			return false
		}
		if !meets(k.From) {
			return false
		}
		at, apart = k.To, k.Node == none
	}
	return meets(n.To)
}

// allReached reports whether all nodes of a forest are reached from its roots, whatever the conditions are.
func allReached(f api.Forest) bool {
	reached := make([]bool, len(f.Nodes))
	var open []int // nodes that are reached and whose kids have not been looked at
	reach := func(i int) {
		if !reached[i] {
			reached[i] = true
			open = append(open, i)
		}
	}
	for _, r := range f.Roots {
		reach(r.Node)
	}
	count := 0
	for ; len(open) > 0; count++ {
		n := f.Nodes[open[len(open)-1]]
		open = open[:len(open)-1]
		for _, a := range n.Alternatives {
			for _, k := range a.Kids {
				if k.Node != none {
					reach(k.Node)
				}
			}
		}
	}
	return count == len(f.Nodes)
}
