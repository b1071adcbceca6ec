package count

import (
	"koine/api"
	"koine/diagram"
	"koine/natural"
	"koine/sound"
)

// none is the Node of a kid that is a leaf, the Production of a leaf of a tree, and the Token of what is no leaf.
const none = -1

// A counting has the numbers of trees of a sound forest for one configuration. These numbers may share memory, and are never changed.
type counting struct {
	forest  api.Forest
	first   []int  // by nodes: how many alternatives those before have
	present []bool // by alternatives of all nodes
	roots   []int  // the nodes of the roots that are present
	numbers *memo[int, api.Nat]
	sums    *memo[int, []api.Nat] // by nodes: for each alternative, the number of trees of those up to it
	one     api.Nat
	total   api.Nat
	e       api.Errno
}

// steps returns the steps of a forest, or an error if it is not sound.
func steps(f api.Forest) ([]sound.Step, api.Errno) {
	if !sound.Formed(f) {
		return nil, api.ErrForest
	}
	return sound.Steps(f)
}

// selected returns a counting of a sound forest in which nothing has been counted.
func selected(f api.Forest, c api.Config) *counting {
	n := &counting{forest: f, first: make([]int, 0, len(f.Nodes)), present: make([]bool, 0, len(f.Nodes)), one: natural.Of(1)}
	n.numbers, n.sums = newMemo(n.number), newMemo(n.upTo)
	for _, node := range f.Nodes {
		n.first = append(n.first, len(n.present))
		for _, a := range node.Alternatives {
			n.present = append(n.present, diagram.Holds(a.If, c))
		}
	}
	for _, r := range f.Roots {
		if diagram.Holds(r.If, c) {
			n.roots = append(n.roots, r.Node)
		}
	}
	return n
}

// counted returns the counting of a sound forest for a configuration, or ErrLarge.
func counted(f api.Forest, c api.Config) (*counting, api.Errno) {
	n := selected(f, c)
	for _, i := range n.reach() {
		// The numbers of the kids are not missing, so that this does not lead down through the forest.
		n.numbers.of(i)
		if n.e != api.OK {
			return nil, n.e
		}
	}
	for _, i := range n.roots {
		n.total = n.plus(n.total, n.numbers.of(i))
	}
	return n, n.e
}

// reach returns the nodes that are reached, in an order in which kids come first.
func (n *counting) reach() []int {
	reached := make([]bool, len(n.forest.Nodes))
	var order []int
	var open []int // nodes, and the complements of those that come as soon as what is open above them is done
	open = append(open, n.roots...)
	for len(open) > 0 {
		i := open[len(open)-1]
		open = open[:len(open)-1]
		if i < 0 {
			order = append(order, ^i)
			continue
		}
		if reached[i] {
			continue
		}
		reached[i] = true
		open = append(open, ^i)
		for k, a := range n.forest.Nodes[i].Alternatives {
			for _, kid := range a.Kids {
				if kid.Node != none && n.has(i, k) && !reached[kid.Node] {
					open = append(open, kid.Node)
				}
			}
		}
	}
	return order
}

// has reports whether an alternative of a node is present.
func (n *counting) has(node, k int) bool { return n.present[n.first[node]+k] }

// number returns how many trees a node has.
func (n *counting) number(node int) api.Nat {
	var sum api.Nat
	for k := range n.forest.Nodes[node].Alternatives {
		sum = n.plus(sum, n.product(node, k))
	}
	return sum
}

// upTo returns how many trees the alternatives of a node up to each one have.
func (n *counting) upTo(node int) []api.Nat {
	var sum api.Nat
	list := make([]api.Nat, len(n.forest.Nodes[node].Alternatives))
	for k := range list {
		sum = n.plus(sum, n.product(node, k))
		list[k] = sum
	}
	return list
}

// product returns how many trees an alternative of a node has.
func (n *counting) product(node, k int) api.Nat {
	if !n.has(node, k) {
		return nil
	}
	kids := n.forest.Nodes[node].Alternatives[k].Kids
	// If a kid has no trees, the numbers of the other ones together can be as large as they like.
	for _, kid := range kids {
		if kid.Node != none && len(n.numbers.of(kid.Node)) == 0 {
			return nil
		}
	}
	product := n.one
	for _, kid := range kids {
		if kid.Node != none {
			product = n.times(product, n.numbers.of(kid.Node))
		}
	}
	return product
}

// plus returns the sum of two numbers.
func (n *counting) plus(a, b api.Nat) api.Nat {
	if len(a) == 0 {
		return b
	}
	if len(b) == 0 {
		return a
	}
	return n.kept(natural.Add(a, b))
}

// times returns the product of two numbers.
func (n *counting) times(a, b api.Nat) api.Nat {
	if isOne(a) {
		return b
	}
	if isOne(b) {
		return a
	}
	return n.kept(natural.Mul(a, b))
}

func isOne(a api.Nat) bool { return len(a) == 1 && a[0] == 1 }

// kept returns a number, and keeps its error.
func (n *counting) kept(a api.Nat, e api.Errno) api.Nat {
	if e != api.OK {
		n.e = e
	}
	return a
}
