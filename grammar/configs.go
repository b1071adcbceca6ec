package grammar

import (
	"koine/api"
	"koine/diagram"
)

// The numbers of the constants in a diagram; firstBranch is the number of the branch Nodes[0].
const (
	all         = 1
	firstBranch = 2
)

// Configs returns the configurations of the family in ascending order, at most most of them, and whether these are all.
func Configs(g api.Grammar, most int) ([]api.Config, bool) {
	if most < 1 || Check(g) != api.OK {
		return nil, false
	}
	f := family{diagram: g.Family, conditions: len(g.Conditions), steps: make([]step, len(g.Family.Nodes)+firstBranch)}
	c, some := diagram.Least(g.Family)
	var list []api.Config
	for some && len(list) < most {
		list = append(list, c)
		c, some = f.after(c)
	}
	return list, !some
}

// A family is a set of configurations of some conditions, from which they are taken in ascending order.
type family struct {
	diagram    api.Diagram
	conditions int
	steps      []step // for each number of the diagram
}

// A step says of a set whether a configuration is in it, and whether and which one is the least greater one in it. The conditions from some level on count only; the others are 0.
type step struct {
	same, more bool
	next       api.Config
}

// after returns the least configuration of the family that is greater than c, and whether there is one.
func (f *family) after(c api.Config) (api.Config, bool) {
	f.steps[all].same = true
	for i, b := range f.diagram.Nodes {
		low, high := f.step(b.Low, b.Var+1, c), f.step(b.High, b.Var+1, c)
		f.steps[i+firstBranch] = join(b.Var, low, high, c)
	}
	s := f.step(f.diagram.Root, 0, c)
	return s.next, s.more
}

// step returns the step of the set with number n, where the conditions from level on count.
func (f *family) step(n, level int, c api.Config) step {
	s := f.steps[n]
	top := f.conditions
	if n >= firstBranch {
		top = f.diagram.Nodes[n-firstBranch].Var
	}
	// The set does not depend on the conditions between level and top, so adding 1 there leads to the next configuration.
	free := api.Config(1)<<top - api.Config(1)<<level
	if s.same && c&free != free {
		s.more, s.next = true, (c>>level+1)<<level
	}
	return s
}

// join returns the step of a branch on condition v, given those of its sides with the conditions behind v.
func join(v int, low, high step, c api.Config) step {
	bit := api.Config(1) << v
	high.next |= bit
	if c&bit != 0 {
		return nearer(high.same, low, high)
	}
	if high.same {
		return step{same: low.same, more: true, next: (c>>v | 1) << v}
	}
	return nearer(low.same, low, high)
}

// nearer returns the step to the lesser one of the next configurations that there are.
func nearer(same bool, low, high step) step {
	s := low
	if !low.more || high.more && high.next < low.next {
		s = high
	}
	s.same = same
	return s
}
