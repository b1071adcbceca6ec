package tree

import (
	"iter"

	"koine/api"
)

// none is the Production of a leaf, the Token of any other node, the Hole of both, and the At and Child of a rewrite without them.
const none = -1

// An outline is the structure of a list of nodes in preorder: the symbol of the root, and for each node the index behind its subtree.
type outline struct {
	root api.Symbol
	ends []int
}

// A reader returns the symbol of the node with an index, and those of its children; false if it is no node.
type reader func(i int) (symbol api.Symbol, children []api.Symbol, ok bool)

// outlined returns the outline of a list of n nodes, each of which is read at most once, and whether these are the nodes of a single subtree.
func outlined(n int, read reader) (outline, bool) {
	if n > api.MaxForest {
		return outline{}, false
	}
	ends := make([]int, n)
	next := 0
	// visit goes through the subtree that begins with the next node. It keeps little on the stack, as a tree can be as deep as it is large.
	var visit func() (api.Symbol, bool)
	visit = func() (api.Symbol, bool) {
		if next == n {
			return api.Symbol{}, false
		}
		i := next
		next++
		symbol, children, ok := read(i)
		for _, want := range children {
			if child, ok := visit(); !ok || child != want {
				return api.Symbol{}, false
			}
		}
		ends[i] = next
		return symbol, ok
	}
	root, ok := visit()
	if !ok || next < n {
		return outline{}, false
	}
	return outline{root, ends}, true
}

// has reports whether there is a node with an index.
func (o outline) has(i int) bool { return within(i, len(o.ends)) }

// kids produces the indexes of the children of a node, from left to right.
func (o outline) kids(i int) iter.Seq[int] {
	return func(yield func(int) bool) {
		for k := i + 1; k < o.ends[i] && yield(k); k = o.ends[k] {
		}
	}
}

// within reports whether i is one of the first n numbers from 0 on.
func within(i, n int) bool { return 0 <= i && i < n }

// symbols returns the symbol of a node with a production and a token, one of which is none, and those of its children; false if there is no such node.
func symbols(g *api.Grammar, production, token int) (symbol api.Symbol, children []api.Symbol, ok bool) {
	switch {
	case production == none && within(token, len(g.Tokens)):
		return api.Symbol{Token: true, Index: token}, nil, true
	case token == none && within(production, len(g.Productions)):
		p := &g.Productions[production]
		return api.Symbol{Index: p.Left}, p.Right, true
	}
	return api.Symbol{}, nil, false
}

// shaped returns the outline of a tree, and whether it is shaped.
func shaped(g api.Grammar, t api.Tree) (outline, bool) {
	return outlined(len(t), func(i int) (api.Symbol, []api.Symbol, bool) {
		n := t[i]
		if n.From < 0 || n.From > n.To || n.Production == none && n.From == n.To {
			return api.Symbol{}, nil, false
		}
		return symbols(&g, n.Production, n.Token)
	})
}

// leaves produces the leaves of a tree in order, each with its number.
func leaves(t api.Tree) iter.Seq2[int, api.Node] {
	return func(yield func(int, api.Node) bool) {
		j := 0
		for _, n := range t {
			if n.Production != none {
				continue
			}
			if !yield(j, n) {
				return
			}
			j++
		}
	}
}
