package formula

import "koine/api"

// A postorder is a list of subformulas, in postorder, that are not yet operands. It grows to one node beyond the limit, which shows that the limit is exceeded, and no further.
type postorder struct {
	nodes api.Formula
	sizes []int // for each node, the number of nodes of its subformula
}

// add adds a node; its operands are the last subformulas.
func (p *postorder) add(op, variable int) {
	if p.large() {
		return
	}
	n := api.FormulaNode{Op: op, Var: variable}
	size := 1
	last := len(p.nodes) - 1
	switch arity(op) {
	case 1:
		n.A = last
		size += p.sizes[n.A]
	case 2:
		n.A, n.B = last-p.sizes[last], last
		size += p.sizes[n.A] + p.sizes[n.B]
	}
	p.nodes = append(p.nodes, n)
	p.sizes = append(p.sizes, size)
}

// large reports whether there are too many nodes for a formula.
func (p *postorder) large() bool { return len(p.nodes) > api.MaxNodes }

// formula returns the only subformula, or ErrLarge.
func (p *postorder) formula() (api.Formula, api.Errno) {
	if p.large() {
		return nil, api.ErrLarge
	}
	return p.nodes, api.OK
}
