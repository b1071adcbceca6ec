package scanner

import (
	"koine/api"
	"koine/diagram"
)

// The numbers of the constant sets.
const (
	nothing    = 0
	everything = 1
)

// sets gives equal sets of configurations equal numbers, and computes with these numbers, each operation only once. It keeps the first error, after which results are empty, so that a computation need not look for errors before its end.
type sets struct {
	list    []api.Diagram
	numbers map[string]int // of the sets that are not constant, by their branches
	results map[operation]int
	e       api.Errno
}

// An operation is one of two sets. Its kind is one of the constants below.
type operation struct{ kind, a, b int }

const (
	intersection = iota
	union
	difference
	inclusion
	disjointness
)

func newSets() *sets {
	return &sets{
		list:    []api.Diagram{nothing: diagram.Constant(false), everything: diagram.Constant(true)},
		numbers: map[string]int{},
		results: map[operation]int{},
	}
}

// number returns the number of a valid set.
func (s *sets) number(d api.Diagram) int {
	if len(d.Nodes) == 0 {
		return d.Root
	}
	key := make([]byte, 0, 64)
	for _, b := range d.Nodes {
		// A valid diagram has less than 2^16 branches, and its last one is the root.
		key = append(key, byte(b.Var), byte(b.Low), byte(b.Low>>8), byte(b.High), byte(b.High>>8))
	}
	n, ok := s.numbers[string(key)]
	if !ok {
		n = len(s.list)
		s.list = append(s.list, d)
		s.numbers[string(key)] = n
	}
	return n
}

// and returns the intersection of two sets.
func (s *sets) and(a, b int) int {
	switch {
	case a == b || b == everything:
		return a
	case a == everything:
		return b
	case a == nothing || b == nothing:
		return nothing
	}
	return s.result(operation{intersection, min(a, b), max(a, b)}, diagram.And)
}

// or returns the union of two sets.
func (s *sets) or(a, b int) int {
	switch {
	case a == b || b == nothing:
		return a
	case a == nothing:
		return b
	case a == everything || b == everything:
		return everything
	}
	return s.result(operation{union, min(a, b), max(a, b)}, diagram.Or)
}

// without returns the configurations of a that are not in b.
func (s *sets) without(a, b int) int {
	switch {
	case a == b || a == nothing || b == everything:
		return nothing
	case b == nothing:
		return a
	}
	return s.result(operation{difference, a, b}, func(x, y api.Diagram) (api.Diagram, api.Errno) {
		return diagram.Choose(y, diagram.Constant(false), x)
	})
}

// split returns the configurations of a that are in b, and those that are not.
func (s *sets) split(a, b int) (inside, outside int) {
	switch inside = s.and(a, b); inside {
	case a:
		return a, nothing
	case nothing:
		return nothing, a
	}
	return inside, s.without(a, b)
}

// subset reports whether a is a subset of b. Other than the operations above, it never leads to an error.
func (s *sets) subset(a, b int) bool {
	if a == b || a == nothing || b == everything {
		return true
	}
	return s.holds(operation{inclusion, a, b}, diagram.Within)
}

// disjoint reports whether a and b have no common configuration. It never leads to an error either.
func (s *sets) disjoint(a, b int) bool {
	if a == nothing || b == nothing {
		return true
	}
	return s.holds(operation{disjointness, min(a, b), max(a, b)}, diagram.Disjoint)
}

func (s *sets) holds(o operation, compute func(x, y api.Diagram) bool) bool {
	return s.result(o, func(x, y api.Diagram) (api.Diagram, api.Errno) {
		return diagram.Constant(compute(x, y)), api.OK
	}) == everything
}

// result returns the result of an operation, which is computed if it is not known.
func (s *sets) result(o operation, compute func(x, y api.Diagram) (api.Diagram, api.Errno)) int {
	if n, ok := s.results[o]; ok {
		return n
	}
	d, e := compute(s.list[o.a], s.list[o.b])
	if s.e == api.OK {
		s.e = e
	}
	n := s.number(d)
	s.results[o] = n
	return n
}

// diagram returns a set in new memory.
func (s *sets) diagram(n int) api.Diagram {
	d := s.list[n]
	d.Nodes = append([]api.Branch(nil), d.Nodes...)
	return d
}
