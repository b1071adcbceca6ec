package priority

import "koine/api"

// A place is that of a node in a tree: it is a child of its parent.
type place struct{ parent, at int }

// placesOf returns the places of the nodes of a shaped tree.
func placesOf(g api.Grammar, t api.Tree) []place {
	places := make([]place, len(t))
	next := place{none, 0}
	for i, n := range t {
		places[i] = next
		next.at++
		if n.Production != none {
			next = place{i, 0}
		}
		// The node and those around it that have all their children are complete.
		for next.parent != none && next.at == len(g.Productions[t[next.parent].Production].Right) {
			next = places[next.parent]
			next.at++
		}
	}
	return places
}
