package tree

import (
	"slices"

	"koine/api"
)

// Map returns the image of a term.
func Map(g, h api.Grammar, m api.Mapping, t api.Term) (api.Term, api.Errno) {
	if e := CheckMapping(g, h, m); e != api.OK {
		return api.Term{}, e
	}
	o, ok := fitted(g, t)
	if !ok {
		return api.Term{}, api.ErrTerm
	}
	x := newImage(o, m, t)
	if x.sizes[0] > api.MaxForest {
		return api.Term{}, api.ErrLarge
	}
	return x.term(), api.OK
}

// An image is that of a term under a mapping, before it is written down.
type image struct {
	outline
	api.Term
	mapping api.Mapping
	rules   []int // the rewrite that is used for each node, or none
	sizes   []int // how many nodes the image of each node has
}

// newImage returns the image of a term with an outline.
func newImage(o outline, m api.Mapping, t api.Term) *image {
	n := len(t.Nodes)
	x := &image{o, t, m, make([]int, n), make([]int, n)}
	first := triggers(m)
	for i, node := range slices.Backward(t.Nodes) {
		if node.Production == none {
			x.sizes[i] = 1
			continue
		}
		x.rules[i] = x.rule(first, i)
		x.eachPart(i, func(child int, _ api.TermNode) {
			if child == none {
				x.sizes[i]++
			} else {
				x.sizes[i] += x.sizes[child]
			}
		})
	}
	return x
}

// rule returns the first rewrite that applies to a node that is no leaf, or none.
func (x *image) rule(first map[trigger]int, i int) int {
	least := none
	consider := func(at, child int) {
		if r, ok := first[trigger{x.Nodes[i].Production, at, child}]; ok && (least == none || r < least) {
			least = r
		}
	}
	consider(none, none)
	at := 0
	for k := range x.kids(i) {
		consider(at, x.Nodes[k].Production)
		at++
	}
	return least
}

// eachPart calls a function for each part of the image of a node that is no leaf, in order: an image of another node, given by its index, or a node of its own, with the index none.
func (x *image) eachPart(i int, visit func(child int, own api.TermNode)) {
	if x.rules[i] == none {
		visit(none, api.TermNode{Production: x.Nodes[i].Production, Token: none})
		for k := range x.kids(i) {
			visit(k, api.TermNode{})
		}
		return
	}
	r := x.mapping[x.rules[i]]
	holes := x.holes(i, r.At)
	for _, n := range r.Template {
		if n.Hole != none {
			visit(holes[n.Hole], api.TermNode{})
		} else {
			visit(none, api.TermNode{Production: n.Production, Token: n.Token, Text: n.Text})
		}
	}
}

// holes returns the children of a node, with the children of child at in its place, if it is not none.
func (x *image) holes(i, at int) []int {
	kids := slices.Collect(x.kids(i))
	if at == none {
		return kids
	}
	return slices.Concat(kids[:at], slices.Collect(x.kids(kids[at])), kids[at+1:])
}

// term returns the image as a term.
func (x *image) term() api.Term {
	nodes := make([]api.TermNode, x.sizes[0])
	places := slices.Repeat([]int{none}, len(x.Nodes)) // where the image of each node begins; none for those that are in no place of the result
	places[0] = 0
	var waiting []string // the remarks of dropped leaves
	// The node in whose image that of another one is comes before it.
	for i, n := range x.Nodes {
		at := places[i]
		switch {
		case n.Production == none && at == none:
			waiting = append(waiting, n.Remarks...)
		case n.Production == none:
			nodes[at] = api.TermNode{Production: none, Token: n.Token, Text: n.Text, Remarks: slices.Concat(waiting, n.Remarks)}
			waiting = nil
		case at != none:
			x.eachPart(i, func(child int, own api.TermNode) {
				if child == none {
					nodes[at] = own
					at++
				} else {
					places[child] = at
					at += x.sizes[child]
				}
			})
		}
	}
	return api.Term{Nodes: nodes, Tail: slices.Concat(waiting, x.Tail)}
}
