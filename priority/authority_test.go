package priority_test

import (
	"cmp"
	"slices"

	"koine/api"
	"koine/diagram"
	"koine/grammar"
)

// The functions of this file follow the sentences of the chapter, in one configuration after the other, with trees whose subtrees are inside of them.

// A ban is a conflict without its configurations.
type ban struct{ kind, parent, at, child int }

func order(a, b ban) int {
	return cmp.Or(cmp.Compare(a.kind, b.kind), cmp.Compare(a.parent, b.parent), cmp.Compare(a.at, b.at), cmp.Compare(a.child, b.child))
}

func endsOpenlyOnTheRight(q api.Production) bool {
	return len(q.Right) > 0 && !q.Right[len(q.Right)-1].Token
}

func endsOpenlyOnTheLeft(q api.Production) bool {
	return len(q.Right) > 0 && !q.Right[0].Token
}

func competesAtTheFirst(q, p api.Production) bool {
	return len(p.Right) > 0 && !p.Right[0].Token && p.Right[0].Index == q.Left && endsOpenlyOnTheRight(q)
}

func competesAtTheLast(q, p api.Production) bool {
	return len(p.Right) > 0 && !p.Right[len(p.Right)-1].Token && p.Right[len(p.Right)-1].Index == q.Left && endsOpenlyOnTheLeft(q)
}

// bansOf returns the conflicts of a valid grammar that are present in a configuration of the family.
func bansOf(g api.Grammar, c api.Config) map[ban]bool {
	found := map[ban]bool{}
	for i, l := range g.Levels {
		for j, m := range g.Levels {
			if !diagram.Holds(l.If, c) || !diagram.Holds(m.If, c) {
				continue
			}
			for _, p := range l.Productions {
				for _, q := range m.Productions {
					parent, child := g.Productions[p], g.Productions[q]
					later, same := j > i, i == j
					if competesAtTheFirst(child, parent) && (later || same && (l.Assoc == api.AssocRight || l.Assoc == api.AssocNever)) {
						found[ban{api.FilterChild, p, 0, q}] = true
					}
					if competesAtTheLast(child, parent) && (later || same && (l.Assoc == api.AssocLeft || l.Assoc == api.AssocNever)) {
						found[ban{api.FilterChild, p, len(parent.Right) - 1, q}] = true
					}
				}
			}
		}
	}
	for _, f := range g.Filters {
		if (f.Kind == api.FilterChild || f.Kind == api.FilterSpine) && diagram.Holds(f.If, c) {
			found[ban{f.Kind, f.Parent, f.At, f.Child}] = true
		}
	}
	return found
}

// family returns the configurations of a grammar with few conditions.
func family(g api.Grammar) []api.Config {
	list, complete := grammar.Configs(g, 100)
	if !complete {
		panic("too many configurations")
	}
	return list
}

// single returns the set of a configuration of n conditions.
func single(c api.Config, n int) api.Diagram {
	d := all()
	for v := range n {
		if c>>v&1 == 1 {
			d = and(d, is(v))
		} else {
			d = and(d, not(is(v)))
		}
	}
	return d
}

// conflictsOf returns the conflicts of a valid grammar with few conditions.
func conflictsOf(g api.Grammar) []api.Filter {
	where := map[ban]api.Diagram{}
	var bans []ban
	for _, c := range family(g) {
		for b := range bansOf(g, c) {
			if _, ok := where[b]; !ok {
				where[b] = none()
				bans = append(bans, b)
			}
			where[b] = or(where[b], single(c, len(g.Conditions)))
		}
	}
	slices.SortFunc(bans, order)
	var list []api.Filter
	for _, b := range bans {
		list = append(list, api.Filter{Kind: b.kind, Parent: b.parent, At: b.at, Child: b.child, If: where[b]})
	}
	return list
}

// A nest is a subtree of a tree with its subtrees inside.
type nest struct {
	api.Node
	index int
	kids  []nest
}

func (n nest) isLeaf() bool { return n.Production == -1 }

// nestOf returns a shaped tree as a nest.
func nestOf(g api.Grammar, x api.Tree) nest {
	next := 0
	var fold func() nest
	fold = func() nest {
		n := nest{Node: x[next], index: next}
		next++
		if !n.isLeaf() {
			for range g.Productions[n.Production].Right {
				n.kids = append(n.kids, fold())
			}
		}
		return n
	}
	return fold()
}

// tree returns a nest as a tree.
func (n nest) tree() api.Tree {
	x := api.Tree{n.Node}
	for _, k := range n.kids {
		x = append(x, k.tree()...)
	}
	return x
}

// all calls a function for a nest and all that is inside.
func (n nest) all(visit func(n nest)) {
	visit(n)
	for _, k := range n.kids {
		k.all(visit)
	}
}

// spine returns the nodes of the right spine of a nest that is no leaf.
func (n nest) spine() []nest {
	list := []nest{n}
	if len(n.kids) > 0 && !n.kids[len(n.kids)-1].isLeaf() {
		list = append(list, n.kids[len(n.kids)-1].spine()...)
	}
	return list
}

// violates reports whether the root of a nest violates a conflict.
func (n nest) violates(f api.Filter) bool {
	if n.Production != f.Parent || n.kids[f.At].isLeaf() {
		return false
	}
	if f.Kind == api.FilterChild {
		return n.kids[f.At].Production == f.Child
	}
	return slices.ContainsFunc(n.kids[f.At].spine(), func(k nest) bool { return k.Production == f.Child })
}

// violationsOf returns the violations of a tree in a configuration, where a grammar has some conflicts.
func violationsOf(g api.Grammar, list []api.Filter, c api.Config, x api.Tree) []api.Violation {
	var found []api.Violation
	n := nestOf(g, x)
	for kind, step := range map[int]int{api.FilterChild: api.StepChild, api.FilterSpine: api.StepSpine} {
		n.all(func(k nest) {
			for i, f := range list {
				if f.Kind == kind && diagram.Holds(f.If, c) && k.violates(f) {
					found = append(found, api.Violation{Step: step, Node: k.index, Rule: i})
				}
			}
		})
	}
	slices.SortFunc(found, func(a, b api.Violation) int {
		return cmp.Or(cmp.Compare(a.Step, b.Step), cmp.Compare(a.Node, b.Node), cmp.Compare(a.Rule, b.Rule))
	})
	return found
}
