package tree

import (
	"cmp"

	"koine/api"
	"koine/facts"
)

// Compare compares two trees node by node.
func Compare(g api.Grammar, a, b api.Tree) int {
	if facts.Check(g) != api.OK {
		return 0
	}
	x, shapedA := shaped(g, a)
	y, shapedB := shaped(g, b)
	if !shapedA || !shapedB {
		return 0
	}
	// The nodes before node i are the same in both trees, so node i is at the same place in both, and both have one.
	for i := range a {
		order := cmp.Or(cmp.Compare(a[i].Token, b[i].Token), cmp.Compare(a[i].Production, b[i].Production), comparePositions(a[i], b[i]))
		if order != 0 {
			return order
		}
		for k, l := i+1, i+1; k < x.ends[i]; k, l = x.ends[k], y.ends[l] {
			if order := cmp.Or(cmp.Compare(a[k].Token, b[l].Token), comparePositions(a[k], b[l])); order != 0 {
				return order
			}
		}
	}
	return 0
}

func comparePositions(m, n api.Node) int {
	return cmp.Or(cmp.Compare(m.From, n.From), cmp.Compare(m.To, n.To))
}
