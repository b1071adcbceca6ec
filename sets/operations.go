package sets

import "koine/api"

// An operation is one of two sets.
type operation struct{ kind, a, b int32 }

// The kinds of operations. The result of the last two is a constant: whether a is a subset of b, and whether they have no common configuration.
const (
	intersection = iota
	union
	difference
	inclusion
	disjointness
)

// Results that are not numbers: there are too many branches, and the numbers of the operands do not decide.
const (
	overflow = -1
	open     = -2
)

// And returns the intersection of two sets.
func (n *Numbers) And(a, b int) int { return n.kept(n.result(intersection, a, b)) }

// Or returns the union of two sets.
func (n *Numbers) Or(a, b int) int { return n.kept(n.result(union, a, b)) }

// Without returns the configurations of a that are not in b.
func (n *Numbers) Without(a, b int) int { return n.kept(n.result(difference, a, b)) }

// Split returns the configurations of a that are in b, and those that are not.
func (n *Numbers) Split(a, b int) (inside, outside int) { return n.And(a, b), n.Without(a, b) }

// Choice returns the set that is low without a condition and high with it. Both of these depend on greater conditions only.
func (n *Numbers) Choice(condition, low, high int) int {
	if low == high {
		return low
	}
	n.conditions |= 1 << condition
	r := n.branch(branch{int32(condition), int32(low), int32(high)})
	return n.kept(int(r), n.fits(r))
}

// Cover returns the union of two sets, or Everything if that would be an error.
func (n *Numbers) Cover(a, b int) int {
	if r, ok := n.result(union, a, b); ok {
		return r
	}
	return Everything
}

// Subset reports whether a is a subset of b. It never leads to an error.
func (n *Numbers) Subset(a, b int) bool {
	return n.apply(operation{inclusion, int32(a), int32(b)}) == Everything
}

// Disjoint reports whether a and b have no common configuration. It never leads to an error either.
func (n *Numbers) Disjoint(a, b int) bool {
	return n.apply(operation{disjointness, int32(a), int32(b)}) == Everything
}

// kept returns a result that is not too large. Otherwise it keeps the error.
func (n *Numbers) kept(r int, ok bool) int {
	if ok {
		return r
	}
	if n.E == api.OK {
		n.E = api.ErrLarge
	}
	return Nothing
}

// result returns the result of an operation, and whether it is not too large.
func (n *Numbers) result(kind int32, a, b int) (int, bool) {
	// All branches that are made are those of the result.
	n.most = len(n.branches) + api.MaxBranches
	r := n.apply(operation{kind, int32(a), int32(b)})
	return int(r), r != overflow && n.fits(r)
}

// apply returns the number of an operation's result, or overflow.
func (n *Numbers) apply(o operation) int32 {
	if r := o.decided(); r != open {
		return r
	}
	if o.a > o.b && o.kind != difference && o.kind != inclusion {
		o.a, o.b = o.b, o.a
	}
	if r, ok := n.results.get(o); ok {
		return r
	}
	low, high := o, o
	x, y := n.branches[o.a], n.branches[o.b]
	condition := min(x.condition, y.condition)
	if x.condition == condition {
		low.a, high.a = x.low, x.high
	}
	if y.condition == condition {
		low.b, high.b = y.low, y.high
	}
	r := n.apply(low)
	if o.kind == inclusion || o.kind == disjointness {
		if r == Everything {
			r = n.apply(high)
		}
	} else {
		r = n.choice(condition, r, high)
	}
	if r != overflow {
		n.results.put(o, r)
	}
	return r
}

// choice returns the number of the set that is low without a condition, and the result of an operation with it, or overflow.
func (n *Numbers) choice(condition, low int32, high operation) int32 {
	if low == overflow {
		return overflow
	}
	r := n.apply(high)
	if r == low || r == overflow {
		return r
	}
	r = n.branch(branch{condition, low, r})
	if len(n.branches) > n.most {
		return overflow
	}
	return r
}

// decided returns the result that the numbers of the operands decide, or open.
func (o operation) decided() int32 {
	switch o.kind {
	case intersection:
		switch {
		case o.a == o.b || o.b == Everything || o.a == Nothing:
			return o.a
		case o.a == Everything || o.b == Nothing:
			return o.b
		}
	case union:
		switch {
		case o.a == o.b || o.b == Nothing || o.a == Everything:
			return o.a
		case o.a == Nothing || o.b == Everything:
			return o.b
		}
	case difference:
		switch {
		case o.a == o.b || o.a == Nothing || o.b == Everything:
			return Nothing
		case o.b == Nothing:
			return o.a
		}
	case inclusion:
		switch {
		case o.a == o.b || o.a == Nothing || o.b == Everything:
			return Everything
		case o.a == Everything || o.b == Nothing:
			return Nothing
		}
	case disjointness:
		switch {
		case o.a == Nothing || o.b == Nothing:
			return Everything
		case o.a == o.b || o.a == Everything || o.b == Everything:
			return Nothing
		}
	}
	return open
}
