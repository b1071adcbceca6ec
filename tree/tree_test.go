package tree_test

import (
	"slices"
	"testing"

	"koine/api"
	"koine/facts"
	"koine/tree"
)

// A treeCase is a tree, and what a function returns for it.
type treeCase struct {
	name string
	x    api.Tree
	want api.Errno
}

// expectShapes fails unless Shape returns what is wanted, also by the authority.
func expectShapes(t *testing.T, g api.Grammar, c api.Config, cases ...treeCase) {
	t.Helper()
	for _, x := range cases {
		if e := shape(t, g, c, x.x); e != x.want || isDerived(g, c, x.x) != (e == api.OK) {
			t.Errorf("Shape, %s: error %d, want %d", x.name, e, x.want)
		}
	}
}

// expectTrees fails unless Check returns what is wanted for a plain text, also by the authority.
func expectTrees(t *testing.T, g api.Grammar, c api.Config, p api.Plain, cases ...treeCase) {
	t.Helper()
	for _, x := range cases {
		if e := check(t, g, c, p, x.x); e != x.want || isTree(g, c, p, x.x) != (e == api.OK) {
			t.Errorf("Check, %s: error %d, want %d", x.name, e, x.want)
		}
	}
}

// P9.1, I1: the chapter's example.
func TestExample(t *testing.T) {
	p := text(only(0), only(1), only(0))
	expectTrees(t, example(), 0, p, treeCase{"the example", sum(), api.OK})
	if e := shape(t, example(), 0, sum()); e != api.OK {
		t.Errorf("Shape: error %d", e)
	}
}

// changed returns the tree of the example with another node.
func changed(i int, n api.Node) api.Tree {
	x := sum()
	x[i] = n
	return x
}

// P9.1, I1: lists that are no tree, and trees that are not shaped.
func TestUnshaped(t *testing.T) {
	cases := []treeCase{
		{"nothing", nil, api.ErrTree},
		{"a node without its child", node(0, 0, 1), api.ErrTree},
		{"without the last child", sum()[:4], api.ErrTree},
		{"without the last node", sum()[:5], api.ErrTree},
		{"without the root", sum()[1:], api.ErrTree},
		{"two trees", slices.Concat(sum(), sum()), api.ErrTree},
		{"one more leaf", slices.Concat(sum(), leaf(0, 3, 4)), api.ErrTree},
		{"a further child", node(0, 0, 2, leaf(0, 0, 1), leaf(0, 1, 2)), api.ErrTree},
		{"another token", changed(3, api.Node{Production: -1, Token: 0, From: 1, To: 2}), api.ErrTree},
		{"a token in the place of a nonterminal", node(1, 0, 3, leaf(0, 0, 1), leaf(1, 1, 2), leaf(0, 2, 3)), api.ErrTree},
		{"a nonterminal in the place of a token", node(0, 0, 1, node(0, 0, 1, leaf(0, 0, 1))), api.ErrTree},
		{"no production and no token", changed(2, api.Node{Production: -1, Token: -1, From: 0, To: 1}), api.ErrTree},
		{"a token that does not exist", changed(2, api.Node{Production: -1, Token: 4, From: 0, To: 1}), api.ErrTree},
		{"the token -2", changed(2, api.Node{Production: -1, Token: -2, From: 0, To: 1}), api.ErrTree},
		{"a production that does not exist", changed(1, api.Node{Production: 2, Token: -1, From: 0, To: 1}), api.ErrTree},
		{"the production -2", changed(1, api.Node{Production: -2, Token: -1, From: 0, To: 1}), api.ErrTree},
		{"a node with a token", changed(1, api.Node{Production: 0, Token: 0, From: 0, To: 1}), api.ErrTree},
		{"a leaf with a production", changed(2, api.Node{Production: 0, Token: 0, From: 0, To: 1}), api.ErrTree},
		{"an empty leaf", changed(2, api.Node{Production: -1, Token: 0, From: 1, To: 1}), api.ErrTree},
		{"a leaf that ends before it begins", changed(2, api.Node{Production: -1, Token: 0, From: 1, To: 0}), api.ErrTree},
		{"a negative offset of a leaf", changed(2, api.Node{Production: -1, Token: 0, From: -1, To: 1}), api.ErrTree},
		{"a leaf alone", leaf(0, 0, 1), api.ErrTree},
	}
	expectShapes(t, example(), 0, cases...)
	expectTrees(t, example(), 0, text(only(0), only(1), only(0)), cases...)
	for _, x := range cases[:len(cases)-1] {
		if _, ok := behind(t, example(), x.x, 0); ok {
			t.Errorf("%s is shaped", x.name)
		}
	}
	// What is shaped need not be a derivation tree: neither the positions nor the root matter.
	for _, x := range []api.Tree{leaf(0, 5, 9), leaf(2, 0, 1), leaf(3, 0, 1), node(0, 7, 7, leaf(0, 0, 1)), node(0, 0, 9, leaf(0, 11, 12))} {
		if n, ok := behind(t, example(), x, 0); !ok || n != len(x) {
			t.Errorf("%v is not shaped", x)
		}
	}
	for _, n := range []api.Node{{Production: 0, Token: -1, From: -1, To: 1}, {Production: 0, Token: -1, From: 2, To: 1}, {Production: 0, Token: -1, From: -2, To: -1}} {
		if _, ok := behind(t, example(), slices.Concat(api.Tree{n}, leaf(0, 0, 1)), 0); ok {
			t.Errorf("a tree with the node %v is shaped", n)
		}
	}
}

// P9.1, I1: the root, and the positions of a node and its children.
func TestShape(t *testing.T) {
	g := grammarOf(0, ordinary("x", "y"), "S = N x N y", "S = N", "N =", "N = x", "N = N x N")
	s := func(from, to int, a, b, c, d api.Tree) api.Tree { return node(0, from, to, a, b, c, d) }
	n := func(at int) api.Tree { return node(2, at, at) }
	expectShapes(t, g, 0,
		treeCase{"all children", s(2, 9, n(2), leaf(0, 2, 3), n(5), leaf(1, 5, 6)), api.OK},
		treeCase{"without a gap", s(2, 6, n(2), leaf(0, 2, 3), n(3), leaf(1, 3, 6)), api.OK},
		treeCase{"children that are not empty", s(0, 9, node(3, 0, 3, leaf(0, 0, 2)), leaf(0, 3, 4), node(3, 6, 7, leaf(0, 6, 7)), leaf(1, 7, 9)), api.OK},
		treeCase{"a node without children", node(1, 4, 4, n(4)), api.OK},
		treeCase{"a child", node(1, 4, 7, node(3, 4, 7, leaf(0, 4, 5))), api.OK},
		treeCase{"the first child begins behind the node", s(1, 9, n(2), leaf(0, 2, 3), n(5), leaf(1, 5, 6)), api.ErrTree},
		treeCase{"the first child begins before the node", s(3, 9, n(2), leaf(0, 2, 3), n(5), leaf(1, 5, 6)), api.ErrTree},
		treeCase{"a child ends before the next one", s(2, 9, n(2), leaf(0, 3, 4), n(5), leaf(1, 5, 6)), api.ErrTree},
		treeCase{"a child ends behind the beginning of the next one", s(2, 9, node(3, 2, 4, leaf(0, 2, 3)), leaf(0, 3, 4), n(5), leaf(1, 5, 6)), api.ErrTree},
		treeCase{"a leaf ends behind the beginning of the next child", s(2, 9, n(2), leaf(0, 2, 6), n(5), leaf(1, 5, 6)), api.ErrTree},
		treeCase{"the last child, a leaf, ends behind the node", s(2, 5, n(2), leaf(0, 2, 3), n(5), leaf(1, 5, 6)), api.ErrTree},
		treeCase{"the last child ends before the node", node(1, 4, 8, node(3, 4, 7, leaf(0, 4, 5))), api.ErrTree},
		treeCase{"the last child ends behind the node", node(1, 4, 6, node(3, 4, 7, leaf(0, 4, 5))), api.ErrTree},
		treeCase{"a node without children is not empty", node(1, 4, 5, node(2, 4, 5)), api.ErrTree},
		treeCase{"a leaf as the only child begins behind the node", node(1, 4, 7, node(3, 4, 7, leaf(0, 5, 6))), api.ErrTree},
		treeCase{"a leaf as the only child begins before the node", node(1, 4, 7, node(3, 4, 7, leaf(0, 3, 6))), api.ErrTree},
		treeCase{"deep inside", node(1, 0, 9, node(4, 0, 9, n(0), leaf(0, 0, 1), node(4, 3, 9, n(3), leaf(0, 4, 5), n(9)))), api.ErrTree},
		treeCase{"another root", n(0), api.ErrTree},
		treeCase{"a leaf as the root", leaf(0, 0, 1), api.ErrTree},
	)
	g.Start = 1
	expectShapes(t, g, 0, treeCase{"the start symbol", n(7), api.OK}, treeCase{"not the start symbol", node(1, 7, 7, n(7)), api.ErrTree})
}

// P9.1, I1: productions and tokens that are not present.
func TestPresence(t *testing.T) {
	tokens := []api.Token{token(api.Ordinary, "x", all()), token(api.Ordinary, "y", set("A"))}
	g := grammarOf(2, tokens, "S = x T", "S = y T :: B || A", "T = :: B", "T = x")
	g.Family = set("A || B")
	absent := node(0, 0, 1, leaf(0, 0, 1), node(2, 1, 1))
	tokenAbsent := node(1, 0, 2, leaf(1, 0, 1), node(3, 1, 2, leaf(0, 1, 2)))
	for c, want := range map[api.Config][2]api.Errno{0: {api.ErrArg, api.ErrArg}, 1: {api.ErrTree, api.OK}, 2: {api.OK, api.ErrTree}, 3: {api.OK, api.OK}, 4: {api.ErrArg, api.ErrArg}, 5: {api.ErrArg, api.ErrArg}} {
		for i, x := range []api.Tree{absent, tokenAbsent} {
			p := text(only(i), only(0))
			if i == 0 {
				p = text(only(0))
			}
			if e, f := shape(t, g, c, x), check(t, g, c, p, x); e != want[i] || f != want[i] {
				t.Errorf("configuration %d, %v: errors %d and %d, want %d", c, x, e, f, want[i])
			}
		}
	}
}

// P9.1, I1: the words and gaps of a plain text.
func TestCheck(t *testing.T) {
	g := grammarOf(0, append(ordinary("x", "y", "z"), token(api.Remark, "#", all())), "S = N x N", "N =", "N = y", "S = N N")
	p := api.Plain{
		Words:   []api.Word{{From: 1, To: 2, Tokens: only(1, 2)}, {From: 4, To: 6, Tokens: only(0, 1)}},
		Remarks: []api.Word{{From: 7, To: 8, Tokens: only(3)}},
		End:     9,
		Stuck:   -1,
	}
	s := func(from, to int, a, b, c api.Tree) api.Tree { return node(0, from, to, a, b, c) }
	n := func(at int) api.Tree { return node(1, at, at) }
	y := func(from, to, end int) api.Tree { return node(2, from, end, leaf(1, from, to)) }
	expectTrees(t, g, 0, p,
		treeCase{"one tree", s(1, 9, y(1, 2, 4), leaf(0, 4, 6), n(9)), api.OK},
		treeCase{"another one", node(3, 1, 9, y(1, 2, 4), y(4, 6, 9)), api.OK},
		treeCase{"fewer leaves", node(3, 1, 9, y(1, 2, 9), n(9)), api.ErrTree},
		treeCase{"more leaves", s(1, 9, y(1, 2, 4), leaf(0, 4, 5), y(5, 6, 9)), api.ErrTree},
		treeCase{"more leaves than words", s(1, 9, y(1, 2, 4), leaf(0, 4, 6), y(7, 8, 9)), api.ErrTree},
		treeCase{"a leaf that begins elsewhere", s(0, 9, y(0, 2, 4), leaf(0, 4, 6), n(9)), api.ErrTree},
		treeCase{"a leaf that ends elsewhere", s(1, 9, y(1, 3, 4), leaf(0, 4, 6), n(9)), api.ErrTree},
		treeCase{"a token that the word cannot be", s(1, 9, n(1), leaf(0, 1, 2), y(4, 6, 9)), api.ErrTree},
		treeCase{"no gap behind a word", s(1, 9, y(1, 2, 4), leaf(0, 4, 6), n(6)), api.ErrTree},
		treeCase{"not the end", s(1, 8, y(1, 2, 4), leaf(0, 4, 6), n(8)), api.ErrTree},
		treeCase{"another gap", s(1, 9, y(1, 2, 4), leaf(0, 4, 6), n(4)), api.ErrTree},
		treeCase{"beyond the end", s(1, 10, y(1, 2, 4), leaf(0, 4, 6), n(10)), api.ErrTree},
	)
	none := api.Plain{End: 5, Stuck: -1, Remarks: []api.Word{{From: 0, To: 1}}}
	expectTrees(t, g, 0, none,
		treeCase{"no words", node(3, 5, 5, n(5), n(5)), api.OK},
		treeCase{"no words, not at the end", node(3, 0, 0, n(0), n(0)), api.ErrTree},
		treeCase{"no words, a node of the whole text", node(3, 0, 5, n(0), n(5)), api.ErrTree},
		treeCase{"a leaf", s(0, 5, n(0), leaf(0, 0, 1), n(5)), api.ErrTree},
	)
	// A word that can be nothing has no leaf.
	p.Words[0].Tokens = nil
	expectTrees(t, g, 0, p, treeCase{"a word without tokens", s(1, 9, y(1, 2, 4), leaf(0, 4, 6), n(9)), api.ErrTree})
}

// P9.1, I1: plain texts that are usable, and others.
func TestUsable(t *testing.T) {
	tokens := append(ordinary("x", "y"), token(api.Layout, " ", all()), token(api.Remark, "#", all()), token(api.Remark, "##", all()))
	g := grammarOf(0, tokens, "S = x x")
	x := node(0, 2, 9, leaf(0, 2, 4), leaf(0, 4, 6))
	plain := func() api.Plain {
		return api.Plain{
			Words:   []api.Word{{From: 2, To: 4, Tokens: only(0, 1)}, {From: 4, To: 6, Tokens: only(0)}},
			Remarks: []api.Word{{From: 0, To: 2, Tokens: only(3)}, {From: 6, To: 7, Tokens: only(4)}, {From: 7, To: 9, Tokens: only(3, 4)}},
			End:     9,
			Stuck:   -1,
		}
	}
	for _, change := range []struct {
		name  string
		want  api.Errno
		apply func(p *api.Plain)
	}{
		{"none", api.OK, func(p *api.Plain) {}},
		{"columns and First do not matter", api.OK, func(p *api.Plain) { p.Words[0].Column, p.Words[1].First = -3, true }},
		{"a remark without tokens", api.OK, func(p *api.Plain) { p.Remarks[0].Tokens = nil }},
		{"no remarks", api.OK, func(p *api.Plain) { p.Remarks = nil }},
		{"a remark less", api.OK, func(p *api.Plain) { p.Remarks = p.Remarks[:1] }},
		{"stuck", api.ErrTree, func(p *api.Plain) { p.Stuck = 8 }},
		{"stuck at 0", api.ErrTree, func(p *api.Plain) { p.Stuck = 0 }},
		{"stuck at -2", api.ErrTree, func(p *api.Plain) { p.Stuck = -2 }},
		{"a token of another class", api.ErrTree, func(p *api.Plain) { p.Words[0].Tokens = only(0, 2) }},
		{"a remark token as a word", api.ErrTree, func(p *api.Plain) { p.Words[0].Tokens = only(0, 3) }},
		{"a token that does not exist", api.ErrTree, func(p *api.Plain) { p.Words[0].Tokens = only(0, 5) }},
		{"the token -1", api.ErrTree, func(p *api.Plain) { p.Words[0].Tokens = only(-1, 0) }},
		{"the same token twice", api.ErrTree, func(p *api.Plain) { p.Words[0].Tokens = only(0, 0) }},
		{"tokens in descending order", api.ErrTree, func(p *api.Plain) { p.Words[0].Tokens = only(1, 0) }},
		{"an ordinary token as a remark", api.ErrTree, func(p *api.Plain) { p.Remarks[0].Tokens = only(1) }},
		{"a layout token as a remark", api.ErrTree, func(p *api.Plain) { p.Remarks[0].Tokens = only(2, 3) }},
		{"a remark's token that does not exist", api.ErrTree, func(p *api.Plain) { p.Remarks[1].Tokens = only(4, 5) }},
		{"a remark's tokens in descending order", api.ErrTree, func(p *api.Plain) { p.Remarks[1].Tokens = only(4, 3) }},
		{"a remark before the text", api.ErrTree, func(p *api.Plain) { p.Remarks[0].From = -1 }},
		{"an empty remark", api.ErrTree, func(p *api.Plain) { p.Remarks[0].To = 0 }},
		{"a remark behind the end", api.ErrTree, func(p *api.Plain) { p.Remarks[2].To = 10 }},
		{"remarks that overlap", api.ErrTree, func(p *api.Plain) { p.Remarks[2].From = 6 }},
		{"remarks in another order", api.ErrTree, func(p *api.Plain) { slices.Reverse(p.Remarks) }},
		{"a remark that reaches into a word", api.ErrTree, func(p *api.Plain) { p.Remarks[0].To = 3 }},
		{"a remark that begins in a word", api.ErrTree, func(p *api.Plain) { p.Remarks[1].From = 5 }},
		{"a remark within a word", api.ErrTree, func(p *api.Plain) { p.Remarks = []api.Word{{From: 4, To: 5}} }},
		{"a word within a remark", api.ErrTree, func(p *api.Plain) { p.Remarks = []api.Word{{From: 1, To: 9}} }},
	} {
		p := plain()
		change.apply(&p)
		if e := check(t, g, 0, p, x); e != change.want || isTree(g, 0, p, x) != (e == api.OK) {
			t.Errorf("Check, %s: error %d, want %d", change.name, e, change.want)
		}
		if _, e := termOf(t, g, "012345678", p, x); e != change.want {
			t.Errorf("Term, %s: error %d, want %d", change.name, e, change.want)
		}
	}
}

// P9.1, I1: words that are not in order, with trees that have the same leaves.
func TestUsableWords(t *testing.T) {
	g := grammarOf(0, ordinary("x"), "S = x x", "S =")
	for _, p := range []api.Plain{
		{Words: []api.Word{{From: 4, To: 6, Tokens: only(0)}, {From: 2, To: 4, Tokens: only(0)}}, End: 6, Stuck: -1},
		{Words: []api.Word{{From: 0, To: 3, Tokens: only(0)}, {From: 2, To: 4, Tokens: only(0)}}, End: 6, Stuck: -1},
		{Words: []api.Word{{From: -1, To: 2, Tokens: only(0)}, {From: 2, To: 4, Tokens: only(0)}}, End: 6, Stuck: -1},
		{Words: []api.Word{{From: 2, To: 2, Tokens: only(0)}, {From: 2, To: 4, Tokens: only(0)}}, End: 6, Stuck: -1},
		{Words: []api.Word{{From: 0, To: 2, Tokens: only(0)}, {From: 2, To: 7, Tokens: only(0)}}, End: 6, Stuck: -1},
		{End: -1, Stuck: -1},
	} {
		x := node(1, p.End, p.End)
		if len(p.Words) == 2 {
			a, b := p.Words[0], p.Words[1]
			x = node(0, a.From, p.End, leaf(0, a.From, a.To), leaf(0, b.From, b.To))
		}
		if e := check(t, g, 0, p, x); e != api.ErrTree || isUsable(g, p) {
			t.Errorf("%v: error %d", p, e)
		}
	}
}

// P9.1, I1: errors in their order.
func TestErrors(t *testing.T) {
	invalid, cyclic := broken()
	some := example()
	some.Conditions, some.Family = names(1), set("A")
	for i, x := range []struct {
		g    api.Grammar
		c    api.Config
		x    api.Tree
		want api.Errno
	}{
		{invalid, 7, nil, api.ErrToken},
		{invalid, 0, sum(), facts.Check(invalid)},
		{cyclic, 7, nil, api.ErrCycle},
		{example(), 1, sum(), api.ErrArg},
		{some, 0, nil, api.ErrArg},
		{some, 3, sum(), api.ErrArg},
		{some, 1, nil, api.ErrTree},
		{some, 1, sum(), api.OK},
	} {
		p := text(only(0), only(1), only(0))
		if e, f := shape(t, x.g, x.c, x.x), check(t, x.g, x.c, p, x.x); e != x.want || f != x.want {
			t.Errorf("case %d: Shape returns %d, Check %d, want %d", i, e, f, x.want)
		}
		p.Stuck = 0
		if e := check(t, x.g, x.c, p, x.x); e != x.want && (e != api.ErrTree || x.want != api.OK) {
			t.Errorf("case %d: Check of a text that is stuck returns %d, want %d", i, e, x.want)
		}
	}
}

// P9.1, I1: random trees, also damaged ones, and random plain texts.
func TestRandom(t *testing.T) {
	g := seeded(1)
	good, bad := 0, 0
	for range 400 {
		x := g.grammar()
		for _, c := range family(x) {
			s, ok := g.sample(t, x, c, g.IntN(20))
			if !ok {
				continue
			}
			if e := check(t, x, c, s.plain, s.tree); e != api.OK {
				t.Fatalf("%v of %v in configuration %d of %v: error %d", s.tree, s.plain, c, x, e)
			}
			for range 30 {
				y, p := s.tree, s.plain
				if g.IntN(3) > 0 {
					y = g.damage(y)
				} else {
					p = g.damagePlain(p)
				}
				e, f := tree.Check(x, c, p, y), tree.Shape(x, c, y)
				if (e == api.OK) != isTree(x, c, p, y) || (f == api.OK) != isDerived(x, c, y) || e != api.OK && e != api.ErrTree {
					t.Fatalf("%v of %v in configuration %d of %v: Check returns %d, Shape %d", y, p, c, x, e, f)
				}
				if e == api.OK {
					good++
				} else {
					bad++
				}
			}
		}
	}
	if good < 1000 || bad < 5000 {
		t.Errorf("only %d trees are derivation trees, and %d are not", good, bad)
	}
}
