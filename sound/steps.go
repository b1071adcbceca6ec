package sound

import (
	"iter"
	"slices"

	"koine/api"
	"koine/sets"
)

// A plan has the nodes of a forest in an order in which each one comes behind its kids, but for kids in the same knot.
type plan struct {
	order   []int
	steps   []Step // all of the order, when it is complete
	done    int    // how many nodes of the order are in steps
	between bundle
}

// A Step is a part of the order of a forest's nodes: those of a knot, or other ones without a knot. A knot has nodes between the same gaps whose kids lead in circles, or to circles, if conditions play no part.
type Step struct {
	nodes []int
	knot  *knot
}

type knot struct {
	first   int
	parents [][]int // by nodes, from the first one: those of the knot whose kid it is; nil for a node that is not in the knot
}

// Knots reports whether a node is in the knot of the step, if there is one.
func (s Step) Knots(i int) bool {
	k := s.knot
	return k != nil && k.first <= i && i < k.first+len(k.parents) && k.parents[i-k.first] != nil
}

// Above returns the parents of a node of the step in its knot, if there is one.
func (s Step) Above(i int) []int {
	if s.knot == nil {
		return nil
	}
	return s.knot.parents[i-s.knot.first]
}

// Steps returns the steps of a forest that is sound but for circles, in an order in which each node comes behind its kids, but for kids in the same step's knot. It returns ErrForest if there is a circle, and ErrLarge if a set is too large to find that out.
func Steps(f api.Forest) ([]Step, api.Errno) {
	p := plan{order: make([]int, 0, len(f.Nodes))}
	// A node that begins later, or that begins at the same gap and ends earlier, has none of the other ones as a kid.
	for behind := len(f.Nodes); behind > 0; {
		first := behind - 1
		for first > 0 && f.Nodes[first-1].From == f.Nodes[first].From {
			first--
		}
		for at := first; at < behind; {
			next := at + 1
			for next < behind && f.Nodes[next].To == f.Nodes[at].To {
				next++
			}
			p.add(f, at, next)
			at = next
		}
		behind = first
	}
	p.step(nil)
	n := sets.New()
	for _, s := range p.steps {
		if s.circular(n, f) {
			return nil, api.ErrForest
		}
	}
	if n.E != api.OK {
		return nil, n.E
	}
	return p.steps, api.OK
}

// add adds the nodes from first to behind, which are those between two gaps.
func (p *plan) add(f api.Forest, first, behind int) {
	x := &p.between
	x.gather(f, first, behind)
	at := len(p.order)
	for i := first; i < behind; i++ {
		if x.kids(i) == 0 {
			p.order = append(p.order, i)
		}
	}
	for next := at; next < len(p.order); next++ {
		for parent := range x.parents(p.order[next]) {
			if x.open[parent-first]--; x.kids(parent) == 0 {
				p.order = append(p.order, parent)
			}
		}
	}
	if len(p.order) == at+behind-first {
		return
	}
	p.step(nil)
	k := knot{first, make([][]int, behind-first)}
	for i := first; i < behind; i++ {
		if x.kids(i) > 0 {
			// Its parents have not been added either.
			p.order = append(p.order, i)
			k.parents[i-first] = slices.AppendSeq([]int{}, x.parents(i))
		}
	}
	p.step(&k)
}

// A bundle says which of the nodes between two gaps are kids of one another. Most have no such ties.
type bundle struct {
	first int
	ties  []tie
	open  []int // by nodes, from the first one: how many kids have not been added
	last  []int // by nodes, from the first one: the last tie to a parent, or none
}

// A tie is a node's parent, and the next tie of this node, or none.
type tie struct{ parent, next int }

// gather finds the ties between the nodes from first to behind.
func (x *bundle) gather(f api.Forest, first, behind int) {
	x.first, x.ties, x.open, x.last = first, x.ties[:0], x.open[:0], x.last[:0]
	for i := first; i < behind; i++ {
		for _, a := range f.Nodes[i].Alternatives {
			for _, k := range a.Kids {
				if first <= k.Node && k.Node < behind {
					x.tie(k.Node, i, behind-first)
				}
			}
		}
	}
}

// tie adds the tie between one of count nodes and its parent.
func (x *bundle) tie(node, parent, count int) {
	for len(x.open) < count {
		x.open, x.last = append(x.open, 0), append(x.last, none)
	}
	last := &x.last[node-x.first]
	x.ties = append(x.ties, tie{parent, *last})
	*last = len(x.ties) - 1
	x.open[parent-x.first]++
}

// kids returns how many kids of a node have not been added.
func (x *bundle) kids(node int) int {
	if len(x.ties) == 0 {
		return 0
	}
	return x.open[node-x.first]
}

// parents produces the parents of a node, each as often as it has it as a kid.
func (x *bundle) parents(node int) iter.Seq[int] {
	return func(yield func(int) bool) {
		if len(x.ties) == 0 {
			return
		}
		for t := x.last[node-x.first]; t != none && yield(x.ties[t].parent); t = x.ties[t].next {
		}
	}
}

// step adds a step of the nodes that are in none.
func (p *plan) step(k *knot) {
	if nodes := p.order[p.done:]; len(nodes) > 0 {
		p.steps = append(p.steps, Step{nodes, k})
		p.done = len(p.order)
	}
}

// circular reports whether the kids of the nodes of a knot lead in a circle in some configuration.
func (s Step) circular(n *sets.Numbers, f api.Forest) bool {
	if s.knot == nil {
		return false
	}
	// The configurations in which kids lead from a node of the knot on and on are less with every visit.
	endless := make([]int, len(s.knot.parents))
	for _, i := range s.nodes {
		endless[i-s.knot.first] = sets.Everything
	}
	s.Settle(func(i int, again func(i int)) {
		set := sets.Nothing
		for _, a := range f.Nodes[i].Alternatives {
			for _, k := range a.Kids {
				if s.Knots(k.Node) {
					set = n.Or(set, n.And(n.Number(a.If), endless[k.Node-s.knot.first]))
				}
			}
		}
		if n.E == api.OK && set != endless[i-s.knot.first] {
			endless[i-s.knot.first] = set
			for _, parent := range s.Above(i) {
				again(parent)
			}
		}
	})
	return n.E == api.OK && slices.ContainsFunc(endless, func(set int) bool { return set != sets.Nothing })
}

// Settle visits the nodes of a step in their order, and those of a knot also again, as long as a visit asks for that.
func (s Step) Settle(visit func(i int, again func(i int))) {
	if s.knot == nil {
		for _, i := range s.nodes {
			visit(i, nil)
		}
		return
	}
	open := slices.Clone(s.nodes)
	waiting := make([]bool, len(s.knot.parents))
	for _, i := range open {
		waiting[i-s.knot.first] = true
	}
	for len(open) > 0 {
		i := open[0]
		open = open[1:]
		waiting[i-s.knot.first] = false
		visit(i, func(i int) {
			if !waiting[i-s.knot.first] {
				waiting[i-s.knot.first] = true
				open = append(open, i)
			}
		})
	}
}

// Reversed returns the step with its nodes in the opposite order.
func (s Step) Reversed() Step {
	nodes := slices.Clone(s.nodes)
	slices.Reverse(nodes)
	return Step{nodes, s.knot}
}
