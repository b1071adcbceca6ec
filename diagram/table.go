package diagram

import "koine/api"

// A table gives each branch a number of its own, and equal branches the same one. The index is made when there are more than few branches.
type table struct {
	nodes []api.Branch
	index map[api.Branch]int
}

// number returns the number of a branch, which is added if the table does not have it.
func (t *table) number(b api.Branch) int {
	if n, ok := t.find(b); ok {
		return n
	}
	n := len(t.nodes) + firstBranch
	t.nodes = append(t.nodes, b)
	switch {
	case t.index != nil:
		t.index[b] = n
	case len(t.nodes) > few:
		t.index = make(map[api.Branch]int)
		for i, b := range t.nodes {
			t.index[b] = i + firstBranch
		}
	}
	return n
}

// find returns the number of a branch that the table has.
func (t *table) find(b api.Branch) (int, bool) {
	if t.index != nil {
		n, ok := t.index[b]
		return n, ok
	}
	for i, other := range t.nodes {
		if other == b {
			return i + firstBranch, true
		}
	}
	return 0, false
}

// load adds the branches of a valid diagram, and returns the number of its root.
func (t *table) load(d api.Diagram) int {
	numbers := make([]int, len(d.Nodes)+firstBranch)
	numbers[all] = all
	for i, b := range d.Nodes {
		b.Low, b.High = numbers[b.Low], numbers[b.High]
		numbers[i+firstBranch] = t.number(b)
	}
	return numbers[d.Root]
}

// shared returns diagrams of the same two sets with one list of branches, in which equal sets have equal numbers.
func shared(a, b api.Diagram) (api.Diagram, api.Diagram) {
	var t table
	a.Root, b.Root = t.load(a), t.load(b)
	return api.Diagram{Nodes: t.nodes, Root: a.Root}, api.Diagram{Nodes: t.nodes, Root: b.Root}
}
