package forest_test

import (
	"cmp"
	"slices"

	"koine/api"
	"koine/diagram"
)

// The functions of this file follow the chapter's sentences about forests. The sets of the forests depend on at most n conditions.

// isSound reports whether a forest is sound.
func isSound(f api.Forest, n int) bool {
	return nodesAreSound(f) && alternativesAreSound(f) && rootsAreSound(f) && !hasCycle(f, n) && isReached(f)
}

// nodesAreSound says what the first sentence says.
func nodesAreSound(f api.Forest) bool {
	for i, a := range f.Nodes {
		if a.Left < 0 || a.From < 0 || a.Copy < 0 || a.To < a.From {
			return false
		}
		if i == 0 {
			continue
		}
		b := f.Nodes[i-1]
		if cmp.Or(cmp.Compare(b.From, a.From), cmp.Compare(b.To, a.To), cmp.Compare(b.Left, a.Left), cmp.Compare(b.Copy, a.Copy)) != -1 {
			return false
		}
	}
	return len(f.Nodes) <= api.MaxForest
}

func isSome(d api.Diagram) bool { return diagram.Check(d) == api.OK && d.Root != 0 }

// alternativesAreSound says what the second, third and fourth sentences say.
func alternativesAreSound(f api.Forest) bool {
	for _, a := range f.Nodes {
		if len(a.Alternatives) == 0 {
			return false
		}
		for i, b := range a.Alternatives {
			if i > 0 && compareAlternatives(a.Alternatives[i-1], b) != -1 || b.Production < 0 || !isSome(b.If) {
				return false
			}
			for _, k := range b.Kids {
				if !isKid(f, k) {
					return false
				}
			}
			if !isConsistent(a, b.Kids) {
				return false
			}
		}
	}
	return true
}

func isKid(f api.Forest, k api.Kid) bool {
	if k.Node == -1 {
		return k.Token >= 0 && 0 <= k.From && k.From < k.To
	}
	return k.Token == -1 && k.Node >= 0 && k.Node < len(f.Nodes) && f.Nodes[k.Node].From == k.From && f.Nodes[k.Node].To == k.To
}

func isConsistent(n api.ForestNode, kids []api.Kid) bool {
	if len(kids) == 0 {
		return n.From == n.To
	}
	if kids[0].From != n.From {
		return false
	}
	for i, k := range kids {
		next := n.To
		if i+1 < len(kids) {
			next = kids[i+1].From
		}
		if k.Node == -1 && k.To > next || k.Node != -1 && k.To != next {
			return false
		}
	}
	return true
}

// rootsAreSound says what the fifth sentence says.
func rootsAreSound(f api.Forest) bool {
	for i, r := range f.Roots {
		if r.Node < 0 || r.Node >= len(f.Nodes) || i > 0 && r.Node <= f.Roots[i-1].Node || !isSome(r.If) {
			return false
		}
	}
	return true
}

// hasCycle says what the sixth sentence says.
func hasCycle(f api.Forest, n int) bool {
	for c := range api.Config(1) << n {
		// The nodes from which no more kids lead on are removed until there are none.
		left := map[int]bool{}
		for i := range f.Nodes {
			left[i] = true
		}
		for removed := true; removed; {
			removed = false
			for i := range left {
				if !slices.ContainsFunc(f.Nodes[i].Alternatives, func(a api.Alternative) bool {
					return diagram.Holds(a.If, c) && slices.ContainsFunc(a.Kids, func(k api.Kid) bool { return left[k.Node] })
				}) {
					delete(left, i)
					removed = true
				}
			}
		}
		if len(left) > 0 {
			return true
		}
	}
	return false
}

// isReached says what the seventh sentence says.
func isReached(f api.Forest) bool {
	reached := map[int]bool{}
	for _, r := range f.Roots {
		reached[r.Node] = true
	}
	for before := -1; before < len(reached); {
		before = len(reached)
		for i, n := range f.Nodes {
			for _, a := range n.Alternatives {
				for _, k := range a.Kids {
					if reached[i] && k.Node >= 0 {
						reached[k.Node] = true
					}
				}
			}
		}
	}
	return len(reached) == len(f.Nodes)
}

// isFit reports whether a forest fits a grammar.
func isFit(g api.Grammar, f api.Forest) bool {
	n := len(g.Conditions)
	for _, a := range f.Nodes {
		if a.Left >= len(g.Nonterminals) {
			return false
		}
		for _, b := range a.Alternatives {
			if b.Production >= len(g.Productions) {
				return false
			}
			p := g.Productions[b.Production]
			if p.Left != a.Left || len(p.Right) != len(b.Kids) || !diagram.Within(b.If, p.If) || !isOfFamily(g, b.If) {
				return false
			}
			for i, k := range b.Kids {
				if k.Node == -1 && (p.Right[i] != api.Symbol{Token: true, Index: k.Token} || !diagram.Within(b.If, g.Tokens[k.Token].If)) {
					return false
				}
				if k.Node >= 0 && k.Node < len(f.Nodes) && p.Right[i] != (api.Symbol{Index: f.Nodes[k.Node].Left}) {
					return false
				}
			}
		}
	}
	for _, r := range f.Roots {
		if r.Node >= 0 && r.Node < len(f.Nodes) && f.Nodes[r.Node].Left != g.Start || !isOfFamily(g, r.If) {
			return false
		}
	}
	return isSound(f, n)
}

func isOfFamily(g api.Grammar, d api.Diagram) bool {
	for _, v := range diagram.Support(d) {
		if v >= len(g.Conditions) {
			return false
		}
	}
	return diagram.Within(d, g.Family)
}

// A packing is a tree of a forest, and what it is made with.
type packing struct {
	tree api.Tree
	uses []use
}

// A use is a node with one of its alternatives.
type use struct{ node, alternative int }

// packings returns the trees of a node of a sound forest for a configuration.
func packings(f api.Forest, c api.Config, i int) []packing {
	n := f.Nodes[i]
	var list []packing
	for j, a := range n.Alternatives {
		if !diagram.Holds(a.If, c) {
			continue
		}
		made := []packing{{branch(a.Production, n.From, n.To), []use{{i, j}}}}
		for _, k := range a.Kids {
			next := []packing{{tree: word(k.Token, k.From, k.To)}}
			if k.Node >= 0 {
				next = packings(f, c, k.Node)
			}
			var longer []packing
			for _, x := range made {
				for _, y := range next {
					longer = append(longer, packing{slices.Concat(x.tree, y.tree), slices.Concat(x.uses, y.uses)})
				}
			}
			made = longer
		}
		list = append(list, made...)
	}
	return list
}

// packingsOf returns the trees of a sound forest for a configuration.
func packingsOf(f api.Forest, c api.Config) []packing {
	var list []packing
	for _, r := range f.Roots {
		if diagram.Holds(r.If, c) {
			list = append(list, packings(f, c, r.Node)...)
		}
	}
	return list
}

// treesIn returns the trees of packings.
func treesIn(list []packing) []api.Tree {
	var made []api.Tree
	for _, p := range list {
		made = append(made, p.tree)
	}
	return made
}

// usesIn returns what packings are made with.
func usesIn(list []packing) map[use]bool {
	found := map[use]bool{}
	for _, p := range list {
		for _, u := range p.uses {
			found[u] = true
		}
	}
	return found
}

// selectedOf returns the forest of one configuration of a sound forest.
func selectedOf(f api.Forest, c api.Config) api.Forest {
	uses := usesIn(packingsOf(f, c))
	numbers := map[int]int{}
	var s api.Forest
	for i, n := range f.Nodes {
		m := api.ForestNode{Left: n.Left, From: n.From, To: n.To, Copy: n.Copy}
		for j, a := range n.Alternatives {
			if uses[use{i, j}] {
				m.Alternatives = append(m.Alternatives, alternative(all(), a.Production, slices.Clone(a.Kids)...))
			}
		}
		if len(m.Alternatives) > 0 {
			numbers[i] = len(s.Nodes)
			s.Nodes = append(s.Nodes, m)
		}
	}
	for _, n := range s.Nodes {
		for _, a := range n.Alternatives {
			for j, k := range a.Kids {
				if k.Node >= 0 {
					a.Kids[j].Node = numbers[k.Node]
				}
			}
		}
	}
	for _, r := range f.Roots {
		if diagram.Holds(r.If, c) && len(packings(f, c, r.Node)) > 0 {
			s.Roots = append(s.Roots, root(numbers[r.Node], all()))
		}
	}
	return s
}

// whereOf returns, for each node of a sound forest and each of its alternatives, the configurations of n conditions in which it is in a tree.
func whereOf(f api.Forest, n int) map[use]api.Diagram {
	configs := map[use][]api.Config{}
	for c := range api.Config(1) << n {
		for u := range usesIn(packingsOf(f, c)) {
			configs[u] = append(configs[u], c)
		}
	}
	found := map[use]api.Diagram{}
	for u, l := range configs {
		found[u] = setOf(n, l)
	}
	return found
}
