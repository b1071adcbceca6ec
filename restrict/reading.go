package restrict

import "koine/api"

// A reading of a derivation tree knows where the subtrees of its nodes end, and which words the nodes have.
type reading struct {
	grammar api.Grammar
	tree    api.Tree
	words   []api.Word
	behind  []int // by nodes: the node behind the subtree
	before  []int // by nodes, and for the end of the tree: the number of words before it
}

func newReading(g api.Grammar, p api.Plain, t api.Tree) *reading {
	r := &reading{g, t, p.Words, make([]int, len(t)), make([]int, len(t)+1)}
	for i, n := range t {
		r.before[i+1] = r.before[i]
		if n.Production == none {
			r.before[i+1]++
		}
	}
	for i := len(t) - 1; i >= 0; i-- {
		r.behind[i] = i + 1
		if t[i].Production != none {
			for range r.production(i).Right {
				r.behind[i] = r.behind[r.behind[i]]
			}
		}
	}
	return r
}

// production returns the production of a node that is no leaf.
func (r *reading) production(node int) *api.Production {
	return &r.grammar.Productions[r.tree[node].Production]
}

// A span is the words from a number up to another one, which is not included.
type span struct{ from, to int }

// span returns the words of a node.
func (r *reading) span(node int) span {
	return span{r.before[node], r.before[r.behind[node]]}
}

// kids returns the words of each child of a node that is no leaf.
func (r *reading) kids(node int) [api.MaxSymbols]span {
	var kids [api.MaxSymbols]span
	child := node + 1
	for k := range r.production(node).Right {
		kids[k] = r.span(child)
		child = r.behind[child]
	}
	return kids
}

// A step reports the violations of a node that is no leaf, in the order of their rules.
type step func(node int, report func(v api.Violation))

// joined returns the violations that several steps report, all those of a step before those of the next one.
func (r *reading) joined(steps ...step) []api.Violation {
	var list []api.Violation
	report := func(v api.Violation) { list = append(list, v) }
	for _, s := range steps {
		for i, n := range r.tree {
			if n.Production != none {
				s(i, report)
			}
		}
	}
	return list
}
