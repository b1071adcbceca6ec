package formula

import (
	"koine/api"
	"koine/diagram"
)

// The numbers of the constants in a diagram; firstBranch is the number of the branch Nodes[0].
const (
	empty       = 0
	all         = 1
	firstBranch = 2
)

// Diagram returns the configurations in which a formula is true.
func Diagram(f api.Formula) (api.Diagram, api.Errno) {
	if e := Check(f); e != api.OK {
		return api.Diagram{}, e
	}
	sets := make([]api.Diagram, len(f))
	for i, n := range f {
		d, e := set(n, sets)
		if e != api.OK {
			return api.Diagram{}, e
		}
		sets[i] = d
	}
	return sets[len(f)-1], api.OK
}

// set returns the set of a node, given those of its operands.
func set(n api.FormulaNode, sets []api.Diagram) (api.Diagram, api.Errno) {
	switch n.Op {
	case api.OpVar:
		return diagram.Var(n.Var)
	case api.OpNot:
		return diagram.Not(sets[n.A])
	case api.OpAnd:
		return diagram.And(sets[n.A], sets[n.B])
	case api.OpOr:
		return diagram.Or(sets[n.A], sets[n.B])
	}
	return diagram.Constant(n.Op == api.OpTrue), api.OK
}

// Of returns the canonical formula of a set of configurations.
func Of(d api.Diagram) (api.Formula, api.Errno) {
	if e := diagram.Check(d); e != api.OK {
		return nil, e
	}
	x := expansion{branches: d.Nodes}
	x.expand(d.Root)
	return x.built.formula()
}

// An expansion writes the canonical formulas of the sets of a diagram.
type expansion struct {
	branches []api.Branch
	built    postorder
}

// expand adds the canonical formula of the set with number n. It does nothing once there are too many nodes, as there can be more of them than anything could hold.
func (x *expansion) expand(n int) {
	if x.built.large() {
		return
	}
	if n < firstBranch {
		x.constant(n)
		return
	}
	b := x.branches[n-firstBranch]
	switch {
	case b.High == all && b.Low == empty:
		x.literal(b.Var, true)
	case b.High == empty && b.Low == all:
		x.literal(b.Var, false)
	case b.Low == empty:
		x.join(api.OpAnd, b.Var, true, b.High)
	case b.High == empty:
		x.join(api.OpAnd, b.Var, false, b.Low)
	case b.High == all:
		x.join(api.OpOr, b.Var, true, b.Low)
	case b.Low == all:
		x.join(api.OpOr, b.Var, false, b.High)
	default:
		x.join(api.OpAnd, b.Var, true, b.High)
		x.join(api.OpAnd, b.Var, false, b.Low)
		x.built.add(api.OpOr, 0)
	}
}

func (x *expansion) constant(n int) {
	if n == all {
		x.built.add(api.OpTrue, 0)
	} else {
		x.built.add(api.OpFalse, 0)
	}
}

// literal adds a condition or its negation.
func (x *expansion) literal(v int, value bool) {
	x.built.add(api.OpVar, v)
	if !value {
		x.built.add(api.OpNot, 0)
	}
}

// join adds the conjunction or disjunction of a literal and the canonical formula of a set.
func (x *expansion) join(op, v int, value bool, n int) {
	x.literal(v, value)
	x.expand(n)
	x.built.add(op, 0)
}

// Text returns the canonical formula of a set of configurations as a string.
func Text(names []string, d api.Diagram) (string, api.Errno) {
	if !validNames(names) {
		return "", api.ErrArg
	}
	f, e := Of(d)
	if e != api.OK {
		return "", e
	}
	return Print(names, f)
}
