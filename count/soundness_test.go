package count_test

import (
	"cmp"
	"slices"

	"koine/api"
	"koine/diagram"
)

// The functions of this file follow the sentences of the chapters about forests. The sets of the forests depend on at most n conditions.

// isSound reports whether a forest is sound.
func isSound(f api.Forest, n int) bool {
	return nodesAreSound(f) && alternativesAreSound(f) && rootsAreSound(f) && !hasCycle(f, n) && isReached(f)
}

// nodesAreSound says what the first sentence says.
func nodesAreSound(f api.Forest) bool {
	for i, a := range f.Nodes {
		if a.Left < 0 || a.From < 0 || a.Copy < 0 || a.To < a.From {
			return false
		}
		if i == 0 {
			continue
		}
		b := f.Nodes[i-1]
		if cmp.Or(cmp.Compare(b.From, a.From), cmp.Compare(b.To, a.To), cmp.Compare(b.Left, a.Left), cmp.Compare(b.Copy, a.Copy)) != -1 {
			return false
		}
	}
	return len(f.Nodes) <= api.MaxForest
}

func isSome(d api.Diagram) bool { return diagram.Check(d) == api.OK && d.Root != 0 }

// alternativesAreSound says what the second, third and fourth sentences say.
func alternativesAreSound(f api.Forest) bool {
	for _, a := range f.Nodes {
		if len(a.Alternatives) == 0 {
			return false
		}
		for i, b := range a.Alternatives {
			if i > 0 && compareAlternatives(a.Alternatives[i-1], b) != -1 || b.Production < 0 || !isSome(b.If) {
				return false
			}
			for _, k := range b.Kids {
				if !isKid(f, k) {
					return false
				}
			}
			if !isConsistent(a, b.Kids) {
				return false
			}
		}
	}
	return true
}

func isKid(f api.Forest, k api.Kid) bool {
	if k.Node == -1 {
		return k.Token >= 0 && 0 <= k.From && k.From < k.To
	}
	return k.Token == -1 && k.Node >= 0 && k.Node < len(f.Nodes) && f.Nodes[k.Node].From == k.From && f.Nodes[k.Node].To == k.To
}

func isConsistent(n api.ForestNode, kids []api.Kid) bool {
	if len(kids) == 0 {
		return n.From == n.To
	}
	if kids[0].From != n.From {
		return false
	}
	for i, k := range kids {
		next := n.To
		if i+1 < len(kids) {
			next = kids[i+1].From
		}
		if k.Node == -1 && k.To > next || k.Node != -1 && k.To != next {
			return false
		}
	}
	return true
}

// rootsAreSound says what the fifth sentence says.
func rootsAreSound(f api.Forest) bool {
	for i, r := range f.Roots {
		if r.Node < 0 || r.Node >= len(f.Nodes) || i > 0 && r.Node <= f.Roots[i-1].Node || !isSome(r.If) {
			return false
		}
	}
	return true
}

// hasCycle says what the sixth sentence says.
func hasCycle(f api.Forest, n int) bool {
	for c := range api.Config(1) << n {
		// The nodes from which no more kids lead on are removed until there are none.
		left := map[int]bool{}
		for i := range f.Nodes {
			left[i] = true
		}
		for removed := true; removed; {
			removed = false
			for i := range left {
				if !slices.ContainsFunc(f.Nodes[i].Alternatives, func(a api.Alternative) bool {
					return diagram.Holds(a.If, c) && slices.ContainsFunc(a.Kids, func(k api.Kid) bool { return left[k.Node] })
				}) {
					delete(left, i)
					removed = true
				}
			}
		}
		if len(left) > 0 {
			return true
		}
	}
	return false
}

// isReached says what the seventh sentence says.
func isReached(f api.Forest) bool {
	reached := map[int]bool{}
	for _, r := range f.Roots {
		reached[r.Node] = true
	}
	for before := -1; before < len(reached); {
		before = len(reached)
		for i, n := range f.Nodes {
			for _, a := range n.Alternatives {
				for _, k := range a.Kids {
					if reached[i] && k.Node >= 0 {
						reached[k.Node] = true
					}
				}
			}
		}
	}
	return len(reached) == len(f.Nodes)
}

// compareAlternatives orders the alternatives of a node.
func compareAlternatives(a, b api.Alternative) int {
	if a.Production != b.Production {
		return cmp.Compare(a.Production, b.Production)
	}
	for i := 0; i < len(a.Kids) && i < len(b.Kids); i++ {
		if k, l := a.Kids[i], b.Kids[i]; k != l {
			return cmp.Or(cmp.Compare(k.From, l.From), cmp.Compare(k.To, l.To), cmp.Compare(k.Token, l.Token), cmp.Compare(k.Node, l.Node))
		}
	}
	return cmp.Compare(len(a.Kids), len(b.Kids))
}

// setOf returns a set of configurations of n conditions.
func setOf(n int, configs []api.Config) api.Diagram {
	d := none()
	for _, c := range configs {
		one := all()
		for v := range n {
			if c>>v&1 == 0 {
				one = and(one, not(is(v)))
			} else {
				one = and(one, is(v))
			}
		}
		d = or(d, one)
	}
	return d
}

// configsOf returns the configurations of n conditions in a set.
func configsOf(d api.Diagram, n int) []api.Config {
	var list []api.Config
	for c := range api.Config(1) << n {
		if diagram.Holds(d, c) {
			list = append(list, c)
		}
	}
	return list
}
