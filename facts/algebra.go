package facts

import (
	"koine/api"
	"koine/diagram"
)

// An algebra computes with valid sets of configurations. It keeps the first error, after which all its results are empty, so that a computation need not look for errors before its end. The sets can share memory.
type algebra struct{ e api.Errno }

// constant reports whether a set is the one of the constant: nothing or everything.
func constant(d api.Diagram, root int) bool { return len(d.Nodes) == 0 && d.Root == root }

// The numbers of the constants in a diagram.
const (
	nothing    = 0
	everything = 1
)

// some reports whether a set is not empty.
func some(d api.Diagram) bool { return !constant(d, nothing) }

// and returns the intersection of two sets.
func (a *algebra) and(x, y api.Diagram) api.Diagram {
	switch {
	case constant(x, nothing) || constant(y, everything) || diagram.Same(x, y):
		return a.kept(x, api.OK)
	case constant(y, nothing) || constant(x, everything):
		return a.kept(y, api.OK)
	}
	return a.kept(diagram.And(x, y))
}

// or returns the union of two sets.
func (a *algebra) or(x, y api.Diagram) api.Diagram {
	switch {
	case constant(x, everything) || constant(y, nothing) || diagram.Same(x, y):
		return a.kept(x, api.OK)
	case constant(y, everything) || constant(x, nothing):
		return a.kept(y, api.OK)
	}
	return a.kept(diagram.Or(x, y))
}

// without returns the configurations of x that are not in y.
func (a *algebra) without(x, y api.Diagram) api.Diagram {
	if constant(x, nothing) || constant(y, nothing) {
		return a.kept(x, api.OK)
	}
	return a.kept(diagram.Choose(y, diagram.Constant(false), x))
}

// join returns the union of two sets, and whether it has more configurations than the old one.
func (a *algebra) join(old, more api.Diagram) (api.Diagram, bool) {
	joined := a.or(old, more)
	return joined, a.e == api.OK && !diagram.Same(joined, old)
}

// meet returns the intersection of two sets, and whether it has fewer configurations than the old one.
func (a *algebra) meet(old, less api.Diagram) (api.Diagram, bool) {
	met := a.and(old, less)
	return met, a.e == api.OK && !diagram.Same(met, old)
}

// kept returns a set, or the empty set if there was an error, now or before.
func (a *algebra) kept(d api.Diagram, e api.Errno) api.Diagram {
	if a.e == api.OK {
		a.e = e
	}
	if a.e != api.OK {
		return api.Diagram{}
	}
	return d
}
