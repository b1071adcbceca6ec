package forest

import (
	"slices"

	"koine/api"
	"koine/diagram"
	"koine/sets"
	"koine/sound"
)

// A weighing has the configurations in which the nodes of a sound forest have trees (inside), and in which they are in trees (outside).
type weighing struct {
	*sets.Numbers
	steps           []sound.Step
	forest          api.Forest
	first           []int   // by nodes: how many alternatives those before have
	present         []int32 // by alternatives of all nodes
	roots           []int32
	inside, outside []int32
}

// weighedAll returns the weighing of a forest for all configurations, and whether it is sound.
func weighedAll(f api.Forest) (*weighing, bool) {
	n := sets.New()
	return newWeighing(f, n, n.Number)
}

// weighed returns the weighing of a forest for one configuration, in which each set is nothing or everything, and whether it is sound.
func weighed(f api.Forest, c api.Config) (*weighing, bool) {
	return newWeighing(f, sets.New(), func(d api.Diagram) int {
		if diagram.Holds(d, c) {
			return sets.Everything
		}
		return sets.Nothing
	})
}

// newWeighing returns the weighing of a forest, and whether it is sound. A function gives sets their numbers.
func newWeighing(f api.Forest, n *sets.Numbers, number func(d api.Diagram) int) (*weighing, bool) {
	if !sound.Formed(f) {
		return nil, false
	}
	steps, e := sound.Steps(f)
	if e != api.OK {
		return nil, false
	}
	w := &weighing{Numbers: n, steps: steps, forest: f, first: make([]int, 0, len(f.Nodes)), present: make([]int32, 0, len(f.Nodes))}
	for _, node := range f.Nodes {
		w.first = append(w.first, len(w.present))
		for _, a := range node.Alternatives {
			w.present = append(w.present, int32(number(a.If)))
		}
	}
	for _, r := range f.Roots {
		w.roots = append(w.roots, int32(number(r.If)))
	}
	w.inside = make([]int32, len(f.Nodes))
	w.rise()
	return w, w.E == api.OK
}

// rise finds the configurations in which nodes have trees.
func (w *weighing) rise() {
	for _, s := range w.steps {
		s.Settle(func(i int, again func(i int)) {
			set := sets.Nothing
			for k := range w.forest.Nodes[i].Alternatives {
				set = w.Or(set, w.complete(i, k))
			}
			if w.E != api.OK || set == int(w.inside[i]) {
				return
			}
			w.inside[i] = int32(set)
			for _, parent := range s.Above(i) {
				again(parent)
			}
		})
	}
}

// complete returns the configurations in which an alternative of a node is present and all of its kids have trees.
func (w *weighing) complete(i, k int) int {
	set := int(w.present[w.first[i]+k])
	for _, kid := range w.forest.Nodes[i].Alternatives[k].Kids {
		if kid.Node != none {
			set = w.And(set, int(w.inside[kid.Node]))
		}
	}
	return set
}

// rooted returns the configurations for which a root is the root of a tree.
func (w *weighing) rooted(i int) int {
	return w.And(int(w.roots[i]), int(w.inside[w.forest.Roots[i].Node]))
}

// fall finds the configurations in which nodes are in trees.
func (w *weighing) fall() {
	w.outside = make([]int32, len(w.forest.Nodes))
	reach := func(i, set int) bool { // whether these are more configurations than before
		more := int32(w.Or(int(w.outside[i]), set))
		if w.E != api.OK || more == w.outside[i] {
			return false
		}
		w.outside[i] = more
		return true
	}
	for i, r := range w.forest.Roots {
		reach(r.Node, w.rooted(i))
	}
	for _, s := range slices.Backward(w.steps) {
		s.Reversed().Settle(func(i int, again func(i int)) {
			for k, a := range w.forest.Nodes[i].Alternatives {
				set := w.among(i, k)
				for _, kid := range a.Kids {
					if kid.Node != none && reach(kid.Node, set) && s.Knots(kid.Node) {
						again(kid.Node)
					}
				}
			}
		})
	}
}

// among returns the configurations in which an alternative of a node is in a tree, if where the node is in a tree is known.
func (w *weighing) among(i, k int) int { return w.And(int(w.outside[i]), w.complete(i, k)) }

// where returns the configurations in which a node is in a tree.
func (w *weighing) where(i int) api.Diagram {
	w.fall()
	if w.E != api.OK {
		return diagram.Constant(false)
	}
	return w.Diagram(int(w.outside[i]))
}

// selected returns the part of the forest that is in trees of its one configuration.
func (w *weighing) selected() api.Forest {
	w.fall()
	var f api.Forest
	numbers := make([]int, len(w.forest.Nodes))
	for i, n := range w.forest.Nodes {
		if w.outside[i] != sets.Nothing {
			numbers[i] = len(f.Nodes)
			f.Nodes = append(f.Nodes, api.ForestNode{Left: n.Left, From: n.From, To: n.To, Copy: n.Copy})
		}
	}
	for i, n := range w.forest.Nodes {
		if w.outside[i] == sets.Nothing {
			continue
		}
		node := &f.Nodes[numbers[i]]
		for k, a := range n.Alternatives {
			if w.among(i, k) != sets.Nothing {
				node.Alternatives = append(node.Alternatives, api.Alternative{Production: a.Production, Kids: renumbered(a.Kids, numbers), If: diagram.Constant(true)})
			}
		}
	}
	for i, r := range w.forest.Roots {
		if w.rooted(i) != sets.Nothing {
			f.Roots = append(f.Roots, api.Root{Node: numbers[r.Node], If: diagram.Constant(true)})
		}
	}
	return f
}

// renumbered returns kids with other numbers of their nodes, in new memory.
func renumbered(kids []api.Kid, numbers []int) []api.Kid {
	list := slices.Clone(kids)
	for i, k := range list {
		if k.Node != none {
			list[i].Node = numbers[k.Node]
		}
	}
	return list
}
