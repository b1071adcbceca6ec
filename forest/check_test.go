package forest_test

import (
	"slices"
	"testing"

	"koine/api"
	"koine/diagram"
	"koine/forest"
)

// choices returns a grammar with two conditions, and a forest that fits it.
func choices() (api.Grammar, api.Forest) {
	g := grammarOf(2, words("a", "+"), "E = a", "E = E + E :: A", "E = N a", "N = :: B")
	g.Family = set("A || B")
	g.Tokens[1].If = set("A")
	a, both := set("A"), set("A && B")
	return g, api.Forest{
		Nodes: []api.ForestNode{
			node(1, 0, 0, alternative(both, 3)),
			node(0, 0, 2, alternative(a, 0, leaf(0, 0, 1)), alternative(both, 2, kid(0, 0, 0), leaf(0, 0, 1))),
			node(0, 0, 6, alternative(a, 1, kid(1, 0, 2), leaf(1, 2, 3), kid(4, 4, 6))),
			node(1, 4, 4, alternative(both, 3)),
			node(0, 4, 6, alternative(a, 0, leaf(0, 4, 5)), alternative(both, 2, kid(3, 4, 4), leaf(0, 4, 5))),
		},
		Roots: []api.Root{root(2, a)},
	}
}

// K2: a forest that fits, and one that is empty.
func TestFits(t *testing.T) {
	g, f := choices()
	for _, x := range []api.Forest{f, {}} {
		if e := check(t, g, x); e != api.OK || !isFit(g, x) {
			t.Errorf("%v: error %d", x, e)
		}
	}
}

// A damage changes a forest.
type damage struct {
	name string
	do   func(f *api.Forest)
}

// expectUnsound fails unless a forest is not sound, as all functions see it.
func expectUnsound(t *testing.T, g api.Grammar, f api.Forest, name string) {
	t.Helper()
	if isSound(f, 2) {
		t.Errorf("%s: the forest is sound", name)
	}
	if e := check(t, g, f); e != api.ErrForest {
		t.Errorf("%s: Check returns error %d", name, e)
	}
	for c := range api.Config(4) {
		for most := range 3 {
			if list, complete := trees(t, f, c, most); len(list) > 0 || complete {
				t.Errorf("%s: Trees returns %v, %v", name, list, complete)
			}
		}
		if s := selected(t, f, c); !sameForest(s, api.Forest{}) {
			t.Errorf("%s: Select returns %v", name, s)
		}
	}
	for i := range len(f.Nodes) + 1 {
		if d := where(t, f, i); !diagram.Same(d, none()) {
			t.Errorf("%s: Where returns %v", name, d)
		}
	}
}

// expectDamaged fails unless each change makes a forest that is not sound.
func expectDamaged(t *testing.T, changes ...damage) {
	t.Helper()
	g, f := choices()
	if !isSound(f, 2) {
		t.Fatal("the forest is not sound")
	}
	for _, d := range changes {
		x := copyOf(f)
		d.do(&x)
		expectUnsound(t, g, x, d.name)
	}
}

// again adds node i once more, behind itself, with another number of the copy, and an alternative to the root that has the new node in the place of a kid.
func again(f *api.Forest, i, number int) {
	n := copyOf(f.Nodes[i])
	n.Copy = number
	f.Nodes = slices.Insert(f.Nodes, i+1, n)
	for _, m := range f.Nodes {
		for _, a := range m.Alternatives {
			for k := range a.Kids {
				if a.Kids[k].Node > i {
					a.Kids[k].Node++
				}
			}
		}
	}
	for k := range f.Roots {
		if f.Roots[k].Node > i {
			f.Roots[k].Node++
		}
	}
	r := f.Roots[0].Node
	a := copyOf(f.Nodes[r].Alternatives[0])
	for k := range a.Kids {
		if a.Kids[k].Node == i {
			a.Kids[k].Node++
		}
	}
	f.Nodes[r].Alternatives = append(f.Nodes[r].Alternatives, a)
}

// K2, K3, K4, K5: nodes that are not as they should be.
func TestUnsoundNodes(t *testing.T) {
	_, f := choices()
	again(&f, 1, 3)
	if !isSound(f, 2) {
		t.Fatalf("a copy: %v is not sound", f)
	}
	expectDamaged(t,
		damage{"a node twice", func(f *api.Forest) { again(f, 1, 0) }},
		damage{"copies in the wrong order", func(f *api.Forest) { f.Nodes[1].Copy = 4; again(f, 1, 3) }},
		damage{"nonterminals in the wrong order", func(f *api.Forest) { f.Nodes[1].Left = 1; again(f, 1, 0); f.Nodes[2].Left = 0 }},
		damage{"ends in the wrong order", func(f *api.Forest) {
			f.Nodes[0], f.Nodes[1] = f.Nodes[1], f.Nodes[0]
			f.Nodes[0].Alternatives[1].Kids[0].Node = 1
			f.Nodes[2].Alternatives[0].Kids[0].Node = 0
		}},
		damage{"beginnings in the wrong order", func(f *api.Forest) {
			f.Nodes[2], f.Nodes[3] = f.Nodes[3], f.Nodes[2]
			f.Nodes[4].Alternatives[1].Kids[0].Node = 2
			f.Roots[0].Node = 3
		}},
		damage{"a negative nonterminal", func(f *api.Forest) { f.Nodes[0].Left = -1 }},
		damage{"a negative copy", func(f *api.Forest) { f.Nodes[0].Copy = -1 }},
		damage{"no alternative", func(f *api.Forest) { f.Nodes[3].Alternatives = nil }},
	)
	g, _ := choices()
	expectUnsound(t, g, api.Forest{Nodes: []api.ForestNode{node(0, -1, -1, alternative(all(), 0))}, Roots: []api.Root{root(0, all())}}, "a negative offset")
	// A node that ends before it begins needs a kid that does, too.
	expectUnsound(t, g, api.Forest{Nodes: []api.ForestNode{
		node(0, 7, 5, alternative(set("A"), 0, kid(1, 7, 5))), node(1, 7, 5, alternative(set("!A"), 0, kid(0, 7, 5))),
	}, Roots: []api.Root{root(0, all())}}, "ends before the beginnings")
}

// K2, K3, K4, K5: alternatives that are not as they should be.
func TestUnsoundAlternatives(t *testing.T) {
	expectDamaged(t,
		damage{"an alternative twice", func(f *api.Forest) {
			f.Nodes[0].Alternatives = append(f.Nodes[0].Alternatives, f.Nodes[0].Alternatives[0])
		}},
		damage{"an alternative twice, in different configurations", func(f *api.Forest) {
			f.Nodes[0].Alternatives = []api.Alternative{alternative(set("A && B"), 3), alternative(set("A && !B"), 3)}
		}},
		damage{"productions in the wrong order", func(f *api.Forest) { slices.Reverse(f.Nodes[1].Alternatives) }},
		damage{"a negative production", func(f *api.Forest) { f.Nodes[1].Alternatives[0].Production = -1 }},
		damage{"an empty set", func(f *api.Forest) { f.Nodes[1].Alternatives[0].If = none() }},
		damage{"an invalid set", func(f *api.Forest) { f.Nodes[1].Alternatives[0].If = api.Diagram{Root: 2} }},
		damage{"a set that is not reduced", func(f *api.Forest) {
			f.Nodes[1].Alternatives[0].If = api.Diagram{Nodes: []api.Branch{{Var: 0, Low: 1, High: 1}}, Root: 2}
		}},
	)
}

// K2, K3, K4, K5: alternatives in their order.
func TestOrderedAlternatives(t *testing.T) {
	f := api.Forest{Nodes: []api.ForestNode{
		node(0, 0, 9,
			alternative(all(), 0, leaf(0, 0, 1), leaf(0, 2, 8)),
			alternative(all(), 0, leaf(0, 0, 1), leaf(0, 2, 8), leaf(0, 8, 9)),
			alternative(all(), 0, leaf(0, 0, 1), leaf(0, 3, 4)),
			alternative(all(), 0, leaf(0, 0, 1), leaf(0, 3, 5)),
			alternative(all(), 0, leaf(0, 0, 1), kid(2, 3, 9)),
			alternative(all(), 0, leaf(0, 0, 1), kid(3, 3, 9)),
			alternative(all(), 0, leaf(0, 0, 1), leaf(0, 3, 9)),
			alternative(all(), 0, leaf(0, 0, 1), leaf(1, 3, 9)),
			alternative(all(), 0, leaf(0, 0, 2)),
			alternative(all(), 0, leaf(1, 0, 2)),
			alternative(all(), 1, leaf(0, 0, 1)),
		),
		node(1, 3, 3, alternative(all(), 0)),
		node(0, 3, 9, alternative(all(), 0, leaf(0, 3, 4))),
		node(1, 3, 9, alternative(all(), 0, kid(1, 3, 3), kid(1, 3, 3), leaf(0, 3, 4))),
	}, Roots: []api.Root{root(0, all())}}
	expectPacked(t, f, 2)
	g, _ := choices()
	list := f.Nodes[0].Alternatives
	for i := range len(list) - 1 {
		list[i], list[i+1] = list[i+1], list[i]
		expectUnsound(t, g, f, "two alternatives in the wrong order")
		list[i], list[i+1] = list[i+1], list[i]
	}
	expectPacked(t, f, 2)
}

// K2, K3, K4, K5: kids that are not as they should be.
func TestUnsoundKids(t *testing.T) {
	change := func(node, alternative, k int, to api.Kid) func(f *api.Forest) {
		return func(f *api.Forest) { f.Nodes[node].Alternatives[alternative].Kids[k] = to }
	}
	changeAll := func(node int, kids ...api.Kid) func(f *api.Forest) {
		return func(f *api.Forest) { f.Nodes[node].Alternatives[0].Kids = kids }
	}
	expectDamaged(t,
		damage{"no node and no token", change(1, 0, 0, api.Kid{Node: -1, Token: -1, To: 1})},
		damage{"a node and a token", change(1, 1, 0, api.Kid{})},
		damage{"the token -2", change(1, 0, 0, leaf(-2, 0, 1))},
		damage{"the token -2 of a node", change(1, 1, 0, api.Kid{Token: -2})},
		damage{"the node -2", change(2, 0, 0, kid(-2, 0, 2))},
		damage{"a node that does not exist", change(2, 0, 2, kid(5, 4, 6))},
		damage{"a node that is far away", change(2, 0, 2, kid(1<<62, 4, 6))},
		damage{"another beginning than the node", func(f *api.Forest) {
			f.Nodes[2].Alternatives[0].Kids[2].From = 3
		}},
		damage{"another end than the node", func(f *api.Forest) {
			f.Nodes[2].Alternatives[0].Kids[2].To, f.Nodes[2].To = 7, 7
		}},
		damage{"an empty leaf", changeAll(0, leaf(0, 0, 0))},
		damage{"a leaf that ends before it begins", changeAll(1, leaf(0, 0, -1))},
		damage{"a node that is not empty, without kids", changeAll(1)},
		damage{"the first kid begins behind the node", changeAll(1, leaf(0, 1, 2))},
		damage{"the first kid, a node, begins behind the node", func(f *api.Forest) { f.Nodes[4].From = 3; f.Nodes[4].Alternatives = f.Nodes[4].Alternatives[1:] }},
		damage{"a leaf ends behind the next kid's beginning", change(2, 0, 1, leaf(1, 2, 5))},
		damage{"a leaf begins before the end of a node before it", change(2, 0, 1, leaf(1, 1, 3))},
		damage{"a leaf begins behind the end of a node before it", change(2, 0, 1, leaf(1, 3, 4))},
		damage{"the last kid, a leaf, ends behind the node", change(1, 0, 0, leaf(0, 0, 3))},
		damage{"the last kid, a node, ends before the node", func(f *api.Forest) { f.Nodes[2].To = 7 }},
		damage{"the last kid, a node, ends behind the node", func(f *api.Forest) { f.Nodes[2].To = 5 }},
		damage{"kids in the opposite order", changeAll(2, kid(4, 4, 6), leaf(1, 2, 3), kid(1, 0, 2))},
		damage{"leaves with common bytes", changeAll(1, leaf(0, 0, 2), leaf(0, 1, 2))},
	)
}

// K2, K3, K4, K5: roots that are not as they should be, and nodes that are not reached.
func TestUnsoundRoots(t *testing.T) {
	roots := func(list ...api.Root) func(f *api.Forest) {
		return func(f *api.Forest) { f.Roots = list }
	}
	expectDamaged(t,
		damage{"a root twice", roots(root(2, all()), root(2, all()))},
		damage{"a root twice, in different configurations", roots(root(2, set("A")), root(2, set("B")))},
		damage{"roots in the wrong order", roots(root(2, all()), root(1, all()))},
		damage{"a root that does not exist", roots(root(2, all()), root(5, all()))},
		damage{"a negative root", roots(root(-1, all()), root(2, all()))},
		damage{"an empty set", roots(root(2, none()))},
		damage{"an invalid set", roots(root(2, api.Diagram{Root: -1}))},
		damage{"no root", roots()},
		damage{"a root from which not all is reached", roots(root(0, all()), root(4, all()))},
		damage{"a node that is no kid", func(f *api.Forest) { f.Nodes[4].Alternatives = f.Nodes[4].Alternatives[:1] }},
		damage{"a node that is a kid only of a node that is not reached", func(f *api.Forest) {
			f.Nodes[2].Alternatives[0].Kids = []api.Kid{leaf(0, 0, 1), leaf(1, 2, 3), kid(4, 4, 6)}
		}},
	)
	_, f := choices()
	f.Roots = []api.Root{root(0, all()), root(2, set("B && !A")), root(4, set("B"))}
	if !isSound(f, 2) {
		t.Fatal("a forest with three roots is not sound")
	}
	expectTrees(t, f, 0)
	expectTrees(t, f, 2)
	expectTrees(t, f, 3, branch(3, 0, 0), branch(0, 4, 6, word(0, 4, 5)), branch(2, 4, 6, branch(3, 4, 4), word(0, 4, 5)))
	// The sets of the roots say where a node is in a tree even if its alternatives are in more configurations.
	expectWhere(t, f, set("A && B"), none(), none(), set("A && B"), set("A && B"))
}

// ring returns a forest of nodes between the same gaps, each of which has the next one as a kid in some configurations, and the last one the first one; all have an alternative without a kid.
func ring(where ...api.Diagram) api.Forest {
	var f api.Forest
	for i, d := range where {
		f.Nodes = append(f.Nodes, node(i, 3, 3, alternative(set("B"), 0), alternative(d, 1, kid((i+1)%len(where), 3, 3))))
	}
	f.Roots = []api.Root{root(0, all())}
	return f
}

// K2, K3, K4, K5: nodes that are kids of themselves, directly or not.
func TestCycles(t *testing.T) {
	g, _ := choices()
	for i, c := range []struct {
		where []string
		sound bool
	}{
		{[]string{"true"}, false},
		{[]string{"A && B"}, false},
		{[]string{"A", "A"}, false},
		{[]string{"A", "!A"}, true},
		{[]string{"A", "B"}, false},
		{[]string{"A", "B", "!A || !B"}, true},
		{[]string{"A", "B", "true", "!A || !B", "true"}, true},
		{[]string{"A", "B", "true", "A == B", "true"}, false},
		{[]string{"!A || B", "A || B", "!B"}, true},
		{[]string{"!A || B", "A || B", "!B || A"}, false},
	} {
		var sets []api.Diagram
		for _, w := range c.where {
			if w == "A == B" {
				w = "A && B || !A && !B"
			}
			sets = append(sets, set(w))
		}
		f := ring(sets...)
		if isSound(f, 2) != c.sound {
			t.Fatalf("ring %d is wrong", i)
		}
		if !c.sound {
			expectUnsound(t, g, f, "a ring")
			continue
		}
		expectPacked(t, f, 2)
	}
	// Two rings of which only one leads in a circle, and nodes that lead to it and from it.
	f := ring(set("A"), set("!A"))
	f.Nodes = append(f.Nodes, node(2, 3, 3, alternative(all(), 0, kid(3, 3, 3))), node(3, 3, 3, alternative(set("A"), 0, kid(4, 3, 3))), node(4, 3, 3, alternative(set("B"), 0, kid(3, 3, 3)), alternative(all(), 1)))
	f.Roots = append(f.Roots, root(2, all()))
	expectUnsound(t, g, f, "one ring of two")
	f.Nodes[4].Alternatives[0].If = set("B && !A")
	expectPacked(t, f, 2)
	f.Nodes[0].Alternatives[1].Kids = append(f.Nodes[0].Alternatives[1].Kids, kid(2, 3, 3), kid(2, 3, 3))
	f.Nodes[4].Alternatives = append(f.Nodes[4].Alternatives, alternative(all(), 1, kid(5, 3, 3)))
	f.Nodes = append(f.Nodes, node(5, 3, 3, alternative(all(), 0)))
	expectPacked(t, f, 2)
	f.Nodes[5].Alternatives = append(f.Nodes[5].Alternatives, alternative(set("B && !A"), 1, kid(0, 3, 3)))
	expectPacked(t, f, 2)
	f.Nodes[5].Alternatives[1].If = set("!A || B")
	expectUnsound(t, g, f, "a ring through both")
	// A node that is a kid twice, and a node that is a kid of itself behind others.
	f = api.Forest{Nodes: []api.ForestNode{node(0, 0, 0, alternative(all(), 0)), node(0, 0, 1, alternative(all(), 0, kid(0, 0, 0), kid(0, 0, 0), leaf(0, 0, 1)))}, Roots: []api.Root{root(1, all())}}
	expectPacked(t, f, 2)
	f.Nodes[1].Alternatives[0].Kids = []api.Kid{kid(0, 0, 0), kid(1, 0, 1)}
	expectUnsound(t, g, f, "a node that is its own kid")
}

// K2: forests that are sound, but do not fit.
func TestDoesNotFit(t *testing.T) {
	base, f := choices()
	type change struct {
		name string
		do   func(g *api.Grammar, f *api.Forest)
	}
	for _, c := range []change{
		{"a nonterminal that does not exist", func(_ *api.Grammar, f *api.Forest) { f.Nodes[0].Left = 2 }},
		{"a production that does not exist", func(_ *api.Grammar, f *api.Forest) { f.Nodes[0].Alternatives[0].Production = 4 }},
		{"a production that is far away", func(_ *api.Grammar, f *api.Forest) { f.Nodes[0].Alternatives[0].Production = 1 << 62 }},
		{"a production of another nonterminal", func(g *api.Grammar, _ *api.Forest) { g.Productions[3].Left = 0 }},
		{"another nonterminal than that of the production", func(_ *api.Grammar, f *api.Forest) { f.Nodes[0].Left = 0 }},
		{"a kid too many", func(g *api.Grammar, _ *api.Forest) { g.Productions[2].Right = g.Productions[2].Right[:1] }},
		{"a kid too few", func(g *api.Grammar, _ *api.Forest) {
			g.Productions[0].Right = []api.Symbol{{Token: true}, {Token: true}}
		}},
		{"no kid", func(g *api.Grammar, _ *api.Forest) { g.Productions[3].Right = []api.Symbol{{Token: true}} }},
		{"another token", func(_ *api.Grammar, f *api.Forest) { f.Nodes[1].Alternatives[0].Kids[0].Token = 1 }},
		{"a token that does not exist", func(_ *api.Grammar, f *api.Forest) { f.Nodes[1].Alternatives[0].Kids[0].Token = 9 }},
		{"a token in the place of a nonterminal", func(_ *api.Grammar, f *api.Forest) {
			f.Nodes[2].Alternatives[0].Kids[2] = leaf(0, 4, 5)
			f.Nodes = f.Nodes[:3]
		}},
		{"a nonterminal in the place of a token", func(g *api.Grammar, _ *api.Forest) { g.Productions[1].Right[0] = api.Symbol{Token: true} }},
		{"another nonterminal in a right side", func(g *api.Grammar, _ *api.Forest) { g.Productions[1].Right[0].Index = 1 }},
		{"more than the family", func(_ *api.Grammar, f *api.Forest) { f.Nodes[1].Alternatives[0].If = all() }},
		{"more than the production", func(_ *api.Grammar, f *api.Forest) { f.Nodes[2].Alternatives[0].If = set("A || B") }},
		{"less of the production", func(g *api.Grammar, _ *api.Forest) { g.Productions[1].If = set("A && B") }},
		{"less of the token", func(g *api.Grammar, _ *api.Forest) { g.Tokens[1].If = set("A && !B") }},
		{"less of another token", func(g *api.Grammar, _ *api.Forest) { g.Tokens[0].If = set("A && B") }},
		{"a smaller family", func(g *api.Grammar, _ *api.Forest) { g.Family = set("A && B") }},
		{"another condition", func(_ *api.Grammar, f *api.Forest) { f.Nodes[1].Alternatives[0].If = set("A && C") }},
		{"another start symbol", func(g *api.Grammar, _ *api.Forest) { g.Start = 1 }},
		{"a root of another nonterminal", func(_ *api.Grammar, f *api.Forest) { f.Roots = append(f.Roots, root(3, set("A"))) }},
		{"a root of more than the family", func(_ *api.Grammar, f *api.Forest) { f.Roots[0].If = all() }},
		{"another condition of a root", func(_ *api.Grammar, f *api.Forest) { f.Roots[0].If = set("A && C") }},
	} {
		g, x := copyOf(base), copyOf(f)
		c.do(&g, &x)
		if !isSound(x, 3) || isFit(g, x) {
			t.Errorf("%s: the forest is wrong", c.name)
		}
		if e := check(t, g, x); e != api.ErrForest {
			t.Errorf("%s: error %d", c.name, e)
		}
		// The other functions do not know the grammar.
		if list, complete := trees(t, x, 5, 9); len(list) == 0 || !complete {
			t.Errorf("%s: %v, %v", c.name, list, complete)
		}
	}
	// A root, and an alternative, can have more configurations than there are trees.
	f.Roots[0].If = set("A || B")
	f.Roots = append(f.Roots, root(4, set("B")))
	if e := check(t, base, f); e != api.OK || !isFit(base, f) {
		t.Errorf("more roots: error %d", e)
	}
}

// K2: the errors, in their order.
func TestCheckErrors(t *testing.T) {
	g, f := choices()
	invalid, cyclic, wrong := copyOf(g), copyOf(g), copyOf(f)
	invalid.Start = 9
	cyclic.Productions[2].Right = []api.Symbol{{}}
	wrong.Nodes[0].Left = -1
	large := api.Forest{Nodes: make([]api.ForestNode, api.MaxForest+1)}
	for i, c := range []struct {
		g    api.Grammar
		f    *api.Forest
		want api.Errno
	}{
		{invalid, &large, api.ErrSymbol}, {invalid, &wrong, api.ErrSymbol}, {invalid, &f, api.ErrSymbol},
		{cyclic, &large, api.ErrCycle}, {cyclic, &wrong, api.ErrCycle}, {cyclic, &f, api.ErrCycle},
		{g, &large, api.ErrLarge}, {g, &wrong, api.ErrForest}, {g, &f, api.OK},
	} {
		if e := forest.Check(c.g, *c.f); e != c.want {
			t.Errorf("case %d: error %d, want %d", i, e, c.want)
		}
	}
}
