package tree

import (
	"slices"

	"koine/api"
	"koine/facts"
)

// Behind returns the index of the node behind the subtree of node i.
func Behind(g api.Grammar, t api.Tree, i int) (int, bool) {
	o, e := located(g, t, i)
	if e != api.OK {
		return 0, false
	}
	return o.ends[i], true
}

// Kids returns the children of node i.
func Kids(g api.Grammar, t api.Tree, i int) ([]int, bool) {
	o, e := located(g, t, i)
	if e != api.OK {
		return nil, false
	}
	return slices.Collect(o.kids(i)), true
}

// Subtree returns the subtree of node i.
func Subtree(g api.Grammar, t api.Tree, i int) (api.Tree, api.Errno) {
	o, e := located(g, t, i)
	if e != api.OK {
		return nil, e
	}
	return slices.Clone(t[i:o.ends[i]]), api.OK
}

// Replace returns a tree with the subtree of node i replaced.
func Replace(g api.Grammar, t api.Tree, i int, u api.Tree) (api.Tree, api.Errno) {
	o, e := located(g, t, i)
	if e != api.OK {
		return nil, e
	}
	part, ok := shaped(g, u)
	if !ok {
		return nil, api.ErrTree
	}
	if symbol, _, _ := symbols(&g, t[i].Production, t[i].Token); symbol != part.root {
		return nil, api.ErrArg
	}
	if i+len(u)+len(t)-o.ends[i] > api.MaxForest {
		return nil, api.ErrLarge
	}
	return slices.Concat(t[:i], u, t[o.ends[i]:]), api.OK
}

// located returns the outline of a tree, or the error of Subtree for a node of it.
func located(g api.Grammar, t api.Tree, i int) (outline, api.Errno) {
	if e := facts.Check(g); e != api.OK {
		return outline{}, e
	}
	o, ok := shaped(g, t)
	if !ok {
		return outline{}, api.ErrTree
	}
	if !o.has(i) {
		return outline{}, api.ErrArg
	}
	return o, api.OK
}
