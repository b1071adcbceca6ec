package count_test

import (
	"slices"
	"testing"

	"koine/api"
	"koine/count"
	"koine/natural"
)

// choices returns a sound forest of a grammar like E = a, E = E + E, E = N a, N =.
func choices() api.Forest {
	a, both := set("A"), set("A && B")
	return api.Forest{
		Nodes: []api.ForestNode{
			node(1, 0, 0, alternative(both, 3)),
			node(0, 0, 2, alternative(a, 0, leaf(0, 0, 1)), alternative(both, 2, kid(0, 0, 0), leaf(0, 0, 1))),
			node(0, 0, 6, alternative(a, 1, kid(1, 0, 2), leaf(1, 2, 3), kid(4, 4, 6))),
			node(1, 4, 4, alternative(both, 3)),
			node(0, 4, 6, alternative(a, 0, leaf(0, 4, 5)), alternative(both, 2, kid(3, 4, 4), leaf(0, 4, 5))),
		},
		Roots: []api.Root{root(2, a)},
	}
}

// A damage changes a forest.
type damage struct {
	name string
	do   func(f *api.Forest)
}

// expectUnsound fails unless a forest is not sound, as all functions see it, whatever else is wrong.
func expectUnsound(t *testing.T, f api.Forest, name string) {
	t.Helper()
	if isSound(f, 2) {
		t.Errorf("%s: the forest is sound", name)
	}
	for c := range api.Config(4) {
		for i, e := range errorsOf(t, f, c, nil, nil, nil, all()) {
			if e != api.ErrForest {
				t.Errorf("%s: function %d returns error %d", name, i, e)
			}
		}
	}
	for i, e := range errorsOf(t, f, 1, branch(0, 0, 0), api.Nat{0}, []uint32{7}, api.Diagram{Root: 7}) {
		if e != api.ErrForest {
			t.Errorf("%s: function %d returns error %d for other arguments that are not valid", name, i, e)
		}
	}
}

// errorsOf returns the errors of all functions.
func errorsOf(t *testing.T, f api.Forest, c api.Config, x api.Tree, n api.Nat, digits []uint32, family api.Diagram) [5]api.Errno {
	t.Helper()
	_, e1 := trees(t, f, c)
	_, e2 := classes(t, f, family)
	_, e3 := rank(t, f, c, x)
	_, e4 := unrank(t, f, c, n)
	_, e5 := sample(t, f, c, digits)
	return [5]api.Errno{e1, e2, e3, e4, e5}
}

// expectDamaged fails unless each change makes a forest that is not sound.
func expectDamaged(t *testing.T, changes ...damage) {
	t.Helper()
	f := choices()
	if !isSound(f, 2) {
		t.Fatal("the forest is not sound")
	}
	for _, d := range changes {
		x := copyOf(f)
		d.do(&x)
		expectUnsound(t, x, d.name)
	}
}

// again adds node i once more, behind itself, with another number of the copy, and an alternative to the root that has the new node in the place of a kid.
func again(f *api.Forest, i, number int) {
	n := copyOf(f.Nodes[i])
	n.Copy = number
	f.Nodes = slices.Insert(f.Nodes, i+1, n)
	for _, m := range f.Nodes {
		for _, a := range m.Alternatives {
			for k := range a.Kids {
				if a.Kids[k].Node > i {
					a.Kids[k].Node++
				}
			}
		}
	}
	for k := range f.Roots {
		if f.Roots[k].Node > i {
			f.Roots[k].Node++
		}
	}
	r := f.Roots[0].Node
	a := copyOf(f.Nodes[r].Alternatives[0])
	for k := range a.Kids {
		if a.Kids[k].Node == i {
			a.Kids[k].Node++
		}
	}
	f.Nodes[r].Alternatives = append(f.Nodes[r].Alternatives, a)
}

// L1 to L5: nodes that are not as they should be.
func TestUnsoundNodes(t *testing.T) {
	f := choices()
	again(&f, 1, 3)
	if !isSound(f, 2) {
		t.Fatalf("a copy: %v is not sound", f)
	}
	expectDamaged(t,
		damage{"a node twice", func(f *api.Forest) { again(f, 1, 0) }},
		damage{"copies in the wrong order", func(f *api.Forest) { f.Nodes[1].Copy = 4; again(f, 1, 3) }},
		damage{"nonterminals in the wrong order", func(f *api.Forest) { f.Nodes[1].Left = 1; again(f, 1, 0); f.Nodes[2].Left = 0 }},
		damage{"ends in the wrong order", func(f *api.Forest) {
			f.Nodes[0], f.Nodes[1] = f.Nodes[1], f.Nodes[0]
			f.Nodes[0].Alternatives[1].Kids[0].Node = 1
			f.Nodes[2].Alternatives[0].Kids[0].Node = 0
		}},
		damage{"beginnings in the wrong order", func(f *api.Forest) {
			f.Nodes[2], f.Nodes[3] = f.Nodes[3], f.Nodes[2]
			f.Nodes[4].Alternatives[1].Kids[0].Node = 2
			f.Roots[0].Node = 3
		}},
		damage{"a negative nonterminal", func(f *api.Forest) { f.Nodes[0].Left = -1 }},
		damage{"a negative copy", func(f *api.Forest) { f.Nodes[0].Copy = -1 }},
		damage{"no alternative", func(f *api.Forest) { f.Nodes[3].Alternatives = nil }},
	)
	expectUnsound(t, api.Forest{Nodes: []api.ForestNode{node(0, -1, -1, alternative(all(), 0))}, Roots: []api.Root{root(0, all())}}, "a negative offset")
	// A node that ends before it begins needs a kid that does, too.
	expectUnsound(t, api.Forest{Nodes: []api.ForestNode{
		node(0, 7, 5, alternative(set("A"), 0, kid(1, 7, 5))), node(1, 7, 5, alternative(set("!A"), 0, kid(0, 7, 5))),
	}, Roots: []api.Root{root(0, all())}}, "ends before the beginnings")
}

// L1 to L5: alternatives that are not as they should be.
func TestUnsoundAlternatives(t *testing.T) {
	expectDamaged(t,
		damage{"an alternative twice", func(f *api.Forest) {
			f.Nodes[0].Alternatives = append(f.Nodes[0].Alternatives, f.Nodes[0].Alternatives[0])
		}},
		damage{"an alternative twice, in different configurations", func(f *api.Forest) {
			f.Nodes[0].Alternatives = []api.Alternative{alternative(set("A && B"), 3), alternative(set("A && !B"), 3)}
		}},
		damage{"productions in the wrong order", func(f *api.Forest) { slices.Reverse(f.Nodes[1].Alternatives) }},
		damage{"a negative production", func(f *api.Forest) { f.Nodes[1].Alternatives[0].Production = -1 }},
		damage{"an empty set", func(f *api.Forest) { f.Nodes[1].Alternatives[0].If = none() }},
		damage{"an invalid set", func(f *api.Forest) { f.Nodes[1].Alternatives[0].If = api.Diagram{Root: 2} }},
		damage{"a set that is not reduced", func(f *api.Forest) {
			f.Nodes[1].Alternatives[0].If = api.Diagram{Nodes: []api.Branch{{Var: 0, Low: 1, High: 1}}, Root: 2}
		}},
	)
}

// L1 to L5: kids that are not as they should be.
func TestUnsoundKids(t *testing.T) {
	change := func(node, alternative, k int, to api.Kid) func(f *api.Forest) {
		return func(f *api.Forest) { f.Nodes[node].Alternatives[alternative].Kids[k] = to }
	}
	changeAll := func(node int, kids ...api.Kid) func(f *api.Forest) {
		return func(f *api.Forest) { f.Nodes[node].Alternatives[0].Kids = kids }
	}
	expectDamaged(t,
		damage{"no node and no token", change(1, 0, 0, api.Kid{Node: -1, Token: -1, To: 1})},
		damage{"a node and a token", change(1, 1, 0, api.Kid{})},
		damage{"the token -2", change(1, 0, 0, leaf(-2, 0, 1))},
		damage{"the token -2 of a node", change(1, 1, 0, api.Kid{Token: -2})},
		damage{"the node -2", change(2, 0, 0, kid(-2, 0, 2))},
		damage{"a node that does not exist", change(2, 0, 2, kid(5, 4, 6))},
		damage{"a node that is far away", change(2, 0, 2, kid(1<<62, 4, 6))},
		damage{"another beginning than the node", func(f *api.Forest) {
			f.Nodes[2].Alternatives[0].Kids[2].From = 3
		}},
		damage{"another end than the node", func(f *api.Forest) {
			f.Nodes[2].Alternatives[0].Kids[2].To, f.Nodes[2].To = 7, 7
		}},
		damage{"an empty leaf", changeAll(0, leaf(0, 0, 0))},
		damage{"a leaf that ends before it begins", changeAll(1, leaf(0, 0, -1))},
		damage{"a node that is not empty, without kids", changeAll(1)},
		damage{"the first kid begins behind the node", changeAll(1, leaf(0, 1, 2))},
		damage{"the first kid, a node, begins behind the node", func(f *api.Forest) { f.Nodes[4].From = 3; f.Nodes[4].Alternatives = f.Nodes[4].Alternatives[1:] }},
		damage{"a leaf ends behind the next kid's beginning", change(2, 0, 1, leaf(1, 2, 5))},
		damage{"a leaf begins before the end of a node before it", change(2, 0, 1, leaf(1, 1, 3))},
		damage{"a leaf begins behind the end of a node before it", change(2, 0, 1, leaf(1, 3, 4))},
		damage{"the last kid, a leaf, ends behind the node", change(1, 0, 0, leaf(0, 0, 3))},
		damage{"the last kid, a node, ends before the node", func(f *api.Forest) { f.Nodes[2].To = 7 }},
		damage{"the last kid, a node, ends behind the node", func(f *api.Forest) { f.Nodes[2].To = 5 }},
		damage{"kids in the opposite order", changeAll(2, kid(4, 4, 6), leaf(1, 2, 3), kid(1, 0, 2))},
		damage{"leaves with common bytes", changeAll(1, leaf(0, 0, 2), leaf(0, 1, 2))},
	)
}

// L1 to L5: roots that are not as they should be, and nodes that are not reached.
func TestUnsoundRoots(t *testing.T) {
	roots := func(list ...api.Root) func(f *api.Forest) {
		return func(f *api.Forest) { f.Roots = list }
	}
	expectDamaged(t,
		damage{"a root twice", roots(root(2, all()), root(2, all()))},
		damage{"a root twice, in different configurations", roots(root(2, set("A")), root(2, set("B")))},
		damage{"roots in the wrong order", roots(root(2, all()), root(1, all()))},
		damage{"a root that does not exist", roots(root(2, all()), root(5, all()))},
		damage{"a negative root", roots(root(-1, all()), root(2, all()))},
		damage{"an empty set", roots(root(2, none()))},
		damage{"an invalid set", roots(root(2, api.Diagram{Root: -1}))},
		damage{"no root", roots()},
		damage{"a root from which not all is reached", roots(root(0, all()), root(4, all()))},
		damage{"a node that is no kid", func(f *api.Forest) { f.Nodes[4].Alternatives = f.Nodes[4].Alternatives[:1] }},
		damage{"a node that is a kid only of a node that is not reached", func(f *api.Forest) {
			f.Nodes[2].Alternatives[0].Kids = []api.Kid{leaf(0, 0, 1), leaf(1, 2, 3), kid(4, 4, 6)}
		}},
	)
	f := choices()
	f.Roots = []api.Root{root(0, all()), root(2, set("B && !A")), root(4, set("B"))}
	if !isSound(f, 2) {
		t.Fatal("a forest with three roots is not sound")
	}
	expectCounted(t, f, 2)
}

// ring returns a forest of nodes between the same gaps, each of which has the next one as a kid in some configurations, and the last one the first one; all have an alternative without a kid.
func ring(where ...api.Diagram) api.Forest {
	var f api.Forest
	for i, d := range where {
		f.Nodes = append(f.Nodes, node(i, 3, 3, alternative(set("B"), 0), alternative(d, 1, kid((i+1)%len(where), 3, 3))))
	}
	f.Roots = []api.Root{root(0, all())}
	return f
}

// L1 to L5: nodes that are kids of themselves, directly or not.
func TestCycles(t *testing.T) {
	for i, c := range []struct {
		where []string
		sound bool
	}{
		{[]string{"true"}, false},
		{[]string{"A && B"}, false},
		{[]string{"A", "A"}, false},
		{[]string{"A", "!A"}, true},
		{[]string{"A", "B"}, false},
		{[]string{"A", "B", "!A || !B"}, true},
		{[]string{"A", "B", "true", "!A || !B", "true"}, true},
		{[]string{"A", "B", "true", "A == B", "true"}, false},
		{[]string{"!A || B", "A || B", "!B"}, true},
		{[]string{"!A || B", "A || B", "!B || A"}, false},
	} {
		var sets []api.Diagram
		for _, w := range c.where {
			if w == "A == B" {
				w = "A && B || !A && !B"
			}
			sets = append(sets, set(w))
		}
		f := ring(sets...)
		if isSound(f, 2) != c.sound {
			t.Fatalf("ring %d is wrong", i)
		}
		if !c.sound {
			expectUnsound(t, f, "a ring")
			continue
		}
		expectCounted(t, f, 2)
	}
	// Two rings of which only one leads in a circle, and nodes that lead to it and from it.
	f := ring(set("A"), set("!A"))
	f.Nodes = append(f.Nodes, node(2, 3, 3, alternative(all(), 0, kid(3, 3, 3))), node(3, 3, 3, alternative(set("A"), 0, kid(4, 3, 3))), node(4, 3, 3, alternative(set("B"), 0, kid(3, 3, 3)), alternative(all(), 1)))
	f.Roots = append(f.Roots, root(2, all()))
	expectUnsound(t, f, "one ring of two")
	f.Nodes[4].Alternatives[0].If = set("B && !A")
	expectCounted(t, f, 2)
	f.Nodes[0].Alternatives[1].Kids = append(f.Nodes[0].Alternatives[1].Kids, kid(2, 3, 3), kid(2, 3, 3))
	f.Nodes[4].Alternatives = append(f.Nodes[4].Alternatives, alternative(all(), 1, kid(5, 3, 3)))
	f.Nodes = append(f.Nodes, node(5, 3, 3, alternative(all(), 0)))
	expectCounted(t, f, 2)
	f.Nodes[5].Alternatives = append(f.Nodes[5].Alternatives, alternative(set("B && !A"), 1, kid(0, 3, 3)))
	expectCounted(t, f, 2)
	f.Nodes[5].Alternatives[1].If = set("!A || B")
	expectUnsound(t, f, "a ring through both")
	// A node that is a kid twice, and a node that is a kid of itself behind others.
	f = api.Forest{Nodes: []api.ForestNode{node(0, 0, 0, alternative(all(), 0)), node(0, 0, 1, alternative(all(), 0, kid(0, 0, 0), kid(0, 0, 0), leaf(0, 0, 1)))}, Roots: []api.Root{root(1, all())}}
	expectCounted(t, f, 2)
	f.Nodes[1].Alternatives[0].Kids = []api.Kid{kid(0, 0, 0), kid(1, 0, 1)}
	expectUnsound(t, f, "a node that is its own kid")
}

// K2: forests that are sound, but do not fit.

// L1 to L5: as many nodes as there can be, and one more.
func TestManyNodes(t *testing.T) {
	f := line(api.MaxForest)
	if n, e := count.Trees(f, 0); e != api.OK || natural.Compare(n, natural.Of(1)) != 0 {
		t.Errorf("%v trees, error %d", n, e)
	}
	x, e := count.Unrank(f, 0, nil)
	if e != api.OK || len(x) != api.MaxForest {
		t.Fatalf("a tree of %d nodes, error %d", len(x), e)
	}
	if n, e := count.Rank(f, 0, x); e != api.OK || len(n) > 0 {
		t.Errorf("the tree has the number %v, error %d", n, e)
	}
	f = line(api.MaxForest + 1)
	_, e1 := count.Trees(f, 0)
	_, e2 := count.Classes(f, none())
	_, e3 := count.Rank(f, 0, x)
	_, e4 := count.Unrank(f, 0, nil)
	_, e5 := count.Sample(f, 0, nil)
	if got := [5]api.Errno{e1, e2, e3, e4, e5}; got != [5]api.Errno{api.ErrForest, api.ErrForest, api.ErrForest, api.ErrForest, api.ErrForest} {
		t.Errorf("too many nodes: errors %v", got)
	}
}
