package forest

import (
	"slices"

	"koine/api"
	"koine/sets"
)

// A walker makes the trees of the one configuration of a weighing.
type walker struct {
	*weighing
	open  [][]int32 // by nodes: the alternatives that have trees; nil if they have not been needed
	path  []choice  // one for each node of a tree that is no leaf, in preorder
	taken int       // how many choices of the path are in the tree that is being made
	made  api.Tree
}

// A choice is a node, and which of its alternatives that have trees is in a tree.
type choice struct{ node, number int32 }

// trees returns the first most trees of the weighing's one configuration, and whether these are all.
func (w *weighing) trees(most int) ([]api.Tree, bool) {
	t := walker{weighing: w, open: make([][]int32, len(w.forest.Nodes))}
	var list []api.Tree
	for i, r := range w.forest.Roots {
		if w.rooted(i) == sets.Nothing {
			continue
		}
		t.path = t.path[:0]
		for more := true; more; more = t.advance() {
			if len(list) == most {
				return list, false
			}
			list = append(list, t.tree(r.Node))
		}
	}
	return list, true
}

// tree returns the first tree of a node that begins with the choices of the path, and completes the path.
func (t *walker) tree(root int) api.Tree {
	t.made, t.taken = t.made[:0], 0
	// grow keeps little on the stack, as a tree can be as deep as it is large.
	var grow func(k *api.Kid)
	grow = func(k *api.Kid) {
		kids := t.enter(k)
		for i := range kids {
			grow(&kids[i])
		}
	}
	grow(&api.Kid{Node: root, Token: none})
	return slices.Clone(t.made)
}

// enter adds a kid to the tree, and returns the kids that follow it.
func (t *walker) enter(k *api.Kid) []api.Kid {
	if k.Node == none {
		t.made = append(t.made, api.Node{Production: none, Token: k.Token, From: k.From, To: k.To})
		return nil
	}
	if t.taken == len(t.path) {
		t.path = append(t.path, choice{node: int32(k.Node)})
	}
	n := &t.forest.Nodes[k.Node]
	a := &n.Alternatives[t.alternatives(k.Node)[t.path[t.taken].number]]
	t.taken++
	t.made = append(t.made, api.Node{Production: a.Production, Token: none, From: n.From, To: n.To})
	return a.Kids
}

// alternatives returns the alternatives of a node that have trees.
func (t *walker) alternatives(i int) []int32 {
	if t.open[i] == nil {
		for k := range t.forest.Nodes[i].Alternatives {
			if t.complete(i, k) != sets.Nothing {
				t.open[i] = append(t.open[i], int32(k))
			}
		}
	}
	return t.open[i]
}

// advance changes the last choice of the path that can be changed to its next one, without the choices behind it. It reports whether there is one.
func (t *walker) advance() bool {
	for last := len(t.path) - 1; last >= 0; last-- {
		c := &t.path[last]
		if c.number++; int(c.number) < len(t.alternatives(int(c.node))) {
			t.path = t.path[:last+1]
			return true
		}
	}
	return false
}
