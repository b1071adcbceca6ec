package diagram

import (
	"slices"

	"koine/api"
)

// Not returns the complement.
func Not(a api.Diagram) (api.Diagram, api.Errno) {
	if e := Check(a); e != api.OK {
		return api.Diagram{}, e
	}
	// The complement has the same branches, in which only the constants differ.
	nodes := slices.Clone(a.Nodes)
	for i, b := range nodes {
		nodes[i].Low, nodes[i].High = complement(b.Low), complement(b.High)
	}
	return api.Diagram{Nodes: nodes, Root: complement(a.Root)}, api.OK
}

// complement exchanges the numbers of the two constants.
func complement(n int) int {
	if n < firstBranch {
		return all - n
	}
	return n
}

// And returns the intersection.
func And(a, b api.Diagram) (api.Diagram, api.Errno) {
	return checked(func(x, y, _ bool) bool { return x && y }, a, b)
}

// Or returns the union.
func Or(a, b api.Diagram) (api.Diagram, api.Errno) {
	return checked(func(x, y, _ bool) bool { return x || y }, a, b)
}

// Xor returns the symmetric difference.
func Xor(a, b api.Diagram) (api.Diagram, api.Errno) {
	return checked(func(x, y, _ bool) bool { return x != y }, a, b)
}

// Choose returns the configurations of a inside c, and those of b outside c.
func Choose(c, a, b api.Diagram) (api.Diagram, api.Errno) {
	if e := checkAll(c, a, b); e != api.OK {
		return api.Diagram{}, e
	}
	a, b = shared(a, b)
	return limited(func(x, y, z bool) bool { return x && y || !x && z }, c, a, b)
}

// checked applies an operation to diagrams that may not be valid.
func checked(apply operation, arguments ...api.Diagram) (api.Diagram, api.Errno) {
	if e := checkAll(arguments...); e != api.OK {
		return api.Diagram{}, e
	}
	return limited(apply, arguments...)
}

// checkAll checks diagrams in their order.
func checkAll(diagrams ...api.Diagram) api.Errno {
	for _, d := range diagrams {
		if e := Check(d); e != api.OK {
			return e
		}
	}
	return api.OK
}

// limited applies an operation to diagrams as combine does.
func limited(apply operation, arguments ...api.Diagram) (api.Diagram, api.Errno) {
	d, ok := combine(api.MaxBranches, apply, arguments...)
	if !ok {
		return api.Diagram{}, api.ErrLarge
	}
	return d, api.OK
}

// Restrict returns the configurations that are in the set when condition v is set to value.
func Restrict(a api.Diagram, v int, value bool) (api.Diagram, api.Errno) {
	if e := checkWith(a, v); e != api.OK {
		return api.Diagram{}, e
	}
	// A restriction merges branches and makes none, so it stays within the limit.
	d, _ := combine(api.MaxBranches, func(x, _, _ bool) bool { return x }, fixed(a, v, value))
	return d, api.OK
}

// Exists returns the configurations that are in the set for some value of condition v.
func Exists(a api.Diagram, v int) (api.Diagram, api.Errno) {
	if e := checkWith(a, v); e != api.OK {
		return api.Diagram{}, e
	}
	return limited(func(x, y, _ bool) bool { return x || y }, fixed(a, v, false), fixed(a, v, true))
}

// checkWith checks a diagram, then the number of a condition.
func checkWith(a api.Diagram, v int) api.Errno {
	if e := Check(a); e != api.OK {
		return e
	}
	if !condition(v) {
		return api.ErrArg
	}
	return api.OK
}

// fixed returns a diagram in which both sides of each branch of condition v are the one for value. It is not reduced: combine does that.
func fixed(a api.Diagram, v int, value bool) api.Diagram {
	nodes := slices.Clone(a.Nodes)
	for i, b := range nodes {
		switch {
		case b.Var != v:
		case value:
			nodes[i].Low = b.High
		default:
			nodes[i].High = b.Low
		}
	}
	return api.Diagram{Nodes: nodes, Root: a.Root}
}

// Within reports whether a is a subset of b.
func Within(a, b api.Diagram) bool {
	return never(func(x, y, _ bool) bool { return x && !y }, a, b)
}

// Disjoint reports whether a and b have no common configuration.
func Disjoint(a, b api.Diagram) bool {
	return never(func(x, y, _ bool) bool { return x && y }, a, b)
}

// never reports whether both diagrams are valid and the operation's result for them is empty. A single branch is enough to say that it is not, whence the limit.
func never(apply operation, a, b api.Diagram) bool {
	if checkAll(a, b) != api.OK {
		return false
	}
	d, ok := combine(0, apply, a, b)
	return ok && d.Root == empty
}
