package tree_test

import (
	"slices"
	"testing"

	"koine/api"
	"koine/diagram"
	"koine/scanner"
	"koine/tree"
)

// expectTerm fails unless Term returns a term.
func expectTerm(t *testing.T, g api.Grammar, s string, p api.Plain, x api.Tree, want api.Term) {
	t.Helper()
	if y, e := termOf(t, g, s, p, x); e != api.OK || !equal(y, want) {
		t.Errorf("Term of %v of %q: %v, error %d, want %v", x, s, y, e, want)
	}
}

// P9.1, I4: the chapter's example.
func TestTermExample(t *testing.T) {
	p := sure(scanner.Plain(example(), 0, "x+x"))
	expectTerm(t, example(), "x+x", p, sum(), term(branch(1, branch(0, word(0, "x")), word(1, "+"), branch(0, word(0, "x")))))
}

// P9.1, I4: remarks before each word, and behind the last one.
func TestRemarks(t *testing.T) {
	s := " %a;%b; x +%c; %d; x %e;%f; "
	p := sure(scanner.Plain(example(), 0, s))
	x := node(1, 8, 28, node(0, 8, 10, leaf(0, 8, 9)), leaf(1, 10, 11), node(0, 19, 28, leaf(0, 19, 20)))
	expectTrees(t, example(), 0, p, treeCase{"of a text with remarks", x, api.OK})
	expectTerm(t, example(), s, p, x, term(branch(1, branch(0, word(0, "x", "%a;", "%b;")), word(1, "+"), branch(0, word(0, "x", "%c;", "%d;"))), "%e;", "%f;"))

	// Without words, all remarks are behind the last one; a text without any is like this, too.
	g := grammarOf(0, example().Tokens, "S = N", "N =")
	s = "%a; %b;"
	expectTerm(t, g, s, sure(scanner.Plain(g, 0, s)), node(0, 7, 7, node(1, 7, 7)), term(branch(0, branch(1)), "%a;", "%b;"))
	expectTerm(t, g, "", api.Plain{Stuck: -1}, node(0, 0, 0, node(1, 0, 0)), term(branch(0, branch(1))))
}

// P9.1, I4: the tree need not be one of the start symbol, nor have the right gaps.
func TestTermOfShaped(t *testing.T) {
	g := grammarOf(0, append(ordinary("x", "y"), token(api.Remark, "#", all())), "S = N", "N = x", "M = y N")
	p := api.Plain{Words: []api.Word{{From: 1, To: 3, Tokens: only(1)}, {From: 3, To: 4, Tokens: only(0, 1)}}, Remarks: []api.Word{{From: 0, To: 1}, {From: 4, To: 6}}, End: 6, Stuck: -1}
	expectTerm(t, g, "abcdef", p, node(2, 0, 77, leaf(1, 1, 3), node(1, 5, 5, leaf(0, 3, 4))), term(branch(2, word(1, "bc", "a"), branch(1, word(0, "d"))), "ef"))
}

// P9.1, I4: errors in their order.
func TestTermErrors(t *testing.T) {
	invalid, cyclic := broken()
	p := text(only(0), only(1), only(0))
	stuck := text(only(0), only(1), only(0))
	stuck.Stuck = 3
	for i, x := range []struct {
		g    api.Grammar
		s    string
		p    api.Plain
		x    api.Tree
		want api.Errno
	}{
		{invalid, "x", stuck, nil, api.ErrToken},
		{cyclic, "x", stuck, nil, api.ErrCycle},
		{example(), "x+x", stuck, sum(), api.ErrTree},
		{example(), "x+", p, sum(), api.ErrTree},
		{example(), "x+x ", p, sum(), api.ErrTree},
		{example(), "", p, sum(), api.ErrTree},
		{example(), "x+x", p, nil, api.ErrTree},
		{example(), "x+x", p, sum()[:5], api.ErrTree},
		{example(), "x", text(only(0)), leaf(0, 0, 1), api.ErrTree},
		{example(), "x", text(only(0)), node(0, 0, 1, leaf(0, 0, 1)), api.OK},
		{example(), "x+x+", text(only(0), only(1), only(0), only(1)), sum(), api.ErrTree},
		{example(), "x+", text(only(0), only(1)), sum(), api.ErrTree},
		{example(), "x+x", text(only(0), only(0), only(0)), sum(), api.ErrTree},
		{example(), "x+x", text(only(0), nil, only(0)), sum(), api.ErrTree},
		{example(), "x+x", p, node(1, 0, 3, node(0, 0, 1, leaf(0, 0, 1)), leaf(1, 1, 3), node(0, 2, 3, leaf(0, 2, 3))), api.ErrTree},
		{example(), "x+x", p, node(1, 0, 3, node(0, 0, 1, leaf(0, 0, 1)), leaf(1, 1, 2), node(0, 2, 3, leaf(0, 1, 3))), api.ErrTree},
		{example(), "abc", text(only(0, 1), only(0, 1), only(0, 1)), sum(), api.OK},
	} {
		if _, e := termOf(t, x.g, x.s, x.p, x.x); e != x.want {
			t.Errorf("case %d: error %d, want %d", i, e, x.want)
		}
	}
}

// checkedGrammar returns a grammar with terms whose parts are not always present.
func checkedGrammar() api.Grammar {
	tokens := []api.Token{
		token(api.Ordinary, "/[a-z][a-z]*/", all()),
		token(api.Ordinary, "if", set("A")),
		token(api.Layout, " ", all()),
		token(api.Remark, "/%([a-z])*;/", set("B")),
		token(api.Remark, "#", set("A")),
		token(api.Remark, "/(!)*/", all()),
		token(api.Ordinary, "/(0)*/", all()),
	}
	tokens[6].Sample = "0"
	g := grammarOf(2, tokens, "S = N if N", "N = /[a-z][a-z]*/", "N = :: B", "M = N N", "N = /(0)*/")
	g.Family = set("A || B")
	return g
}

// checkedTerm returns a term of the first nonterminal of checkedGrammar with A.
func checkedTerm() api.Term {
	return term(branch(0, branch(1, word(0, "ab", "#", "!")), word(1, "if", "!!"), branch(1, word(0, "if", "#"))), "#", "!")
}

// P9.1, I5: terms of a nonterminal in a configuration, and others.
func TestCheckTerm(t *testing.T) {
	g := checkedGrammar()
	n := branch(1, word(0, "x"))
	for _, x := range []struct {
		name string
		c    api.Config
		left int
		x    api.Term
		want api.Errno
	}{
		{"a term", 1, 0, checkedTerm(), api.OK},
		{"with more conditions", 3, 0, checkedTerm(), api.OK},
		{"a token and a remark that are not present", 2, 0, checkedTerm(), api.ErrTerm},
		{"a token that is not present", 2, 0, term(branch(0, n, word(1, "if"), n)), api.ErrTerm},
		{"another nonterminal", 1, 1, term(n), api.OK},
		{"not this nonterminal", 1, 0, term(n), api.ErrTerm},
		{"not that nonterminal", 1, 1, checkedTerm(), api.ErrTerm},
		{"a production that is not present", 1, 1, term(branch(2)), api.ErrTerm},
		{"a production that is present", 2, 1, term(branch(2)), api.OK},
		{"inside", 1, 2, term(branch(3, branch(2), n)), api.ErrTerm},
		{"the last one inside", 1, 2, term(branch(3, n, branch(2))), api.ErrTerm},
		{"nothing", 1, 0, term(nil), api.ErrTerm},
		{"a leaf", 1, 0, term(word(0, "x")), api.ErrTerm},
		{"a child less", 1, 0, term(branch(0, n, word(1, "if"))), api.ErrTerm},
		{"a child more", 1, 0, term(branch(0, n, word(1, "if"), n, n)), api.ErrTerm},
		{"another token", 1, 1, term(branch(1, word(1, "if"))), api.ErrTerm},
		{"another text than the literal", 1, 0, term(branch(0, n, word(1, "iff"), n)), api.ErrTerm},
		{"no text", 1, 0, term(branch(0, n, word(1, ""), n)), api.ErrTerm},
		{"a text that the pattern matches in part", 1, 1, term(branch(1, word(0, "a1"))), api.ErrTerm},
		{"a text that the pattern does not match", 1, 1, term(branch(1, word(0, "A"))), api.ErrTerm},
		{"a text that the pattern does not match, empty", 1, 1, term(branch(1, word(0, ""))), api.ErrTerm},
		{"an empty text that the pattern matches", 1, 1, term(branch(4, word(6, ""))), api.OK},
		{"the same text, for one token only", 1, 2, term(branch(3, n, branch(4, word(6, "x")))), api.ErrTerm},
		{"a remark that is not present", 1, 1, term(branch(1, word(0, "x", "%a;"))), api.ErrTerm},
		{"a remark that is present", 2, 1, term(branch(1, word(0, "x", "%a;"))), api.OK},
		{"an empty remark", 1, 1, term(branch(1, word(0, "x", "!", ""))), api.ErrTerm},
		{"no remark", 1, 1, term(branch(1, word(0, "x", "#", "x"))), api.ErrTerm},
		{"layout as a remark", 1, 1, term(branch(1, word(0, "x", " "))), api.ErrTerm},
		{"two remarks in one", 1, 1, term(branch(1, word(0, "x", "##"))), api.ErrTerm},
		{"an empty remark in Tail", 1, 1, term(n, ""), api.ErrTerm},
		{"a remark in Tail that is not present", 2, 1, term(n, "#"), api.ErrTerm},
		{"no remark in Tail", 3, 1, term(n, "#", "%;", "%"), api.ErrTerm},
		{"remarks in Tail", 3, 1, term(n, "#", "%;", "!!!"), api.OK},
	} {
		if e := checkTerm(t, g, x.c, x.left, x.x); e != x.want || isTerm(g, x.c, x.left, x.x) != (e == api.OK) {
			t.Errorf("%s: error %d, want %d", x.name, e, x.want)
		}
	}
}

// P9.1, I5: nodes of terms that are none.
func TestTermNodes(t *testing.T) {
	for i, change := range []func(n *api.TermNode){
		func(n *api.TermNode) { n.Text = "if" },
		func(n *api.TermNode) { n.Remarks = []string{"#"} },
		func(n *api.TermNode) { n.Token = 0 },
		func(n *api.TermNode) { n.Token = -2 },
		func(n *api.TermNode) { n.Production = 5 },
		func(n *api.TermNode) { n.Production = -1 },
		func(n *api.TermNode) { n.Production = -2 },
	} {
		for _, k := range []int{0, 1} {
			x := checkedTerm()
			change(&x.Nodes[k])
			if e := checkTerm(t, checkedGrammar(), 1, 0, x); e != api.ErrTerm || isTerm(checkedGrammar(), 1, 0, x) {
				t.Errorf("change %d of node %d: error %d", i, k, e)
			}
			if _, e := mapped(t, checkedGrammar(), checkedGrammar(), nil, x); e != api.ErrTerm {
				t.Errorf("Map after change %d of node %d: error %d", i, k, e)
			}
		}
	}
	for i, n := range []api.TermNode{{Production: -1, Token: 7, Text: "ab"}, {Production: -1, Token: -1, Text: "ab"}, {Production: 0, Token: 0, Text: "ab"}, {Production: -2, Token: 0, Text: "ab"}} {
		x := checkedTerm()
		x.Nodes[2] = n
		if e := checkTerm(t, checkedGrammar(), 1, 0, x); e != api.ErrTerm {
			t.Errorf("leaf %d: error %d", i, e)
		}
	}
}

// P9.1, I5: errors in their order.
func TestCheckTermErrors(t *testing.T) {
	invalid, cyclic := broken()
	large := term(make(list, api.MaxForest+1))
	limit := term(make(list, api.MaxForest))
	for i, x := range []struct {
		g    api.Grammar
		c    api.Config
		left int
		x    api.Term
		want api.Errno
	}{
		{invalid, 9, -1, large, api.ErrToken},
		{cyclic, 9, -1, large, api.ErrCycle},
		{checkedGrammar(), 0, 0, large, api.ErrArg},
		{checkedGrammar(), 5, 0, checkedTerm(), api.ErrArg},
		{checkedGrammar(), 1, -1, large, api.ErrArg},
		{checkedGrammar(), 1, 3, checkedTerm(), api.ErrArg},
		{checkedGrammar(), 1, 2, large, api.ErrLarge},
		{checkedGrammar(), 1, 2, limit, api.ErrTerm},
		{checkedGrammar(), 1, 0, checkedTerm(), api.OK},
	} {
		if e := tree.CheckTerm(x.g, x.c, x.left, x.x); e != x.want {
			t.Errorf("case %d: error %d, want %d", i, e, x.want)
		}
	}
}

// P9.1, I5: equality of any two terms.
func TestSame(t *testing.T) {
	strange := func() api.Term {
		return api.Term{Nodes: []api.TermNode{{Production: -7, Token: 3, Text: "a", Remarks: []string{"", "b"}}, {Production: 3}}, Tail: []string{"c", "d"}}
	}
	if !same(t, strange(), strange()) || !same(t, checkedTerm(), checkedTerm()) {
		t.Error("a term is not the same as itself")
	}
	empty := api.Term{Nodes: []api.TermNode{{Remarks: []string{}}}, Tail: []string{}}
	if !same(t, api.Term{}, term(list{}, []string{}...)) || !same(t, empty, api.Term{Nodes: make([]api.TermNode, 1)}) {
		t.Error("empty lists are not the same as nil ones")
	}
	for i, change := range []func(x *api.Term){
		func(x *api.Term) { x.Nodes[0].Production = -6 },
		func(x *api.Term) { x.Nodes[1].Token = 1 },
		func(x *api.Term) { x.Nodes[0].Text = "" },
		func(x *api.Term) { x.Nodes[0].Remarks[1] = "c" },
		func(x *api.Term) { slices.Reverse(x.Nodes[0].Remarks) },
		func(x *api.Term) { x.Nodes[0].Remarks = x.Nodes[0].Remarks[:1] },
		func(x *api.Term) { x.Nodes[1].Remarks = []string{""} },
		func(x *api.Term) { x.Nodes = x.Nodes[:1] },
		func(x *api.Term) { x.Nodes = append(x.Nodes, api.TermNode{}) },
		func(x *api.Term) { slices.Reverse(x.Nodes) },
		func(x *api.Term) { x.Tail = nil },
		func(x *api.Term) { x.Tail[0] = "d" },
		func(x *api.Term) { slices.Reverse(x.Tail) },
	} {
		x := strange()
		change(&x)
		if same(t, x, strange()) || same(t, strange(), x) {
			t.Errorf("change %d: still the same", i)
		}
	}
}

// P9.1, I4 and I5, and P9.4: the terms of random derivation trees, also damaged ones.
func TestTermsRandom(t *testing.T) {
	g := seeded(6)
	terms, remarks := 0, 0
	for range 500 {
		x := g.grammar()
		for _, c := range family(x) {
			s, ok := g.sample(t, x, c, g.IntN(20))
			if !ok {
				continue
			}
			y, e := termOf(t, x, s.text, s.plain, s.tree)
			if e != api.OK || !equal(y, treeTerm(x, s.text, s.plain, s.tree)) {
				t.Fatalf("Term of %v of %q: %v, error %d", s.tree, s.text, y, e)
			}
			if e := checkTerm(t, x, c, x.Start, y); e != api.OK {
				t.Fatalf("%v is no term: error %d", y, e)
			}
			expectParts(t, s, y)
			remarks += len(s.plain.Remarks)
			for range 10 {
				expectDamaged(t, s, g.damage(s.tree))
			}
			terms++
		}
	}
	if terms < 500 || remarks < 500 {
		t.Errorf("only %d terms, %d remarks", terms, remarks)
	}
}

// expectParts fails unless the term of a sample has a leaf for each word, and all remarks in their order.
func expectParts(t *testing.T, s sample, y api.Term) {
	t.Helper()
	var words, remarks, all []string
	for _, n := range y.Nodes {
		if n.Production == -1 {
			words, remarks = append(words, n.Text), append(remarks, n.Remarks...)
		}
	}
	for _, r := range s.plain.Remarks {
		all = append(all, s.text[r.From:r.To])
	}
	if remarks = append(remarks, y.Tail...); len(words) != len(s.plain.Words) || !slices.Equal(remarks, all) {
		t.Fatalf("the term of %q has the words %q and the remarks %q", s.text, words, remarks)
	}
	for i, w := range s.plain.Words {
		if words[i] != s.text[w.From:w.To] {
			t.Fatalf("the term of %q has the words %q", s.text, words)
		}
	}
}

// expectDamaged fails unless Term returns the term of a tree if it has one.
func expectDamaged(t *testing.T, s sample, x api.Tree) {
	t.Helper()
	n, ok := nestOf(s.g, x)
	ok = ok && !n.isLeaf() && hasLeaves(n, s.plain.Words)
	y, e := tree.Term(s.g, s.text, s.plain, x)
	if !ok && e != api.ErrTree || ok && (e != api.OK || !equal(y, treeTerm(s.g, s.text, s.plain, x))) {
		t.Fatalf("Term of %v of %q: %v, error %d", x, s.text, y, e)
	}
}

// P9.1, I5: random terms, also damaged ones, in all configurations.
func TestCheckTermRandom(t *testing.T) {
	g := seeded(7)
	good, bad := 0, 0
	for range 300 {
		x := g.grammar()
		for left := range x.Nonterminals {
			y, ok := g.term(x, left, g.IntN(10))
			for range 5 {
				if !ok {
					break
				}
				z := g.damageTerm(x, y)
				for _, c := range family(x) {
					e := checkTerm(t, x, c, left, z)
					if (e == api.OK) != isTerm(x, c, left, z) || e != api.OK && e != api.ErrTerm {
						t.Fatalf("%v in configuration %d of %v: error %d", z, c, x, e)
					}
					if e == api.OK {
						good++
					} else {
						bad++
					}
				}
			}
		}
	}
	if good < 500 || bad < 500 {
		t.Errorf("only %d terms and %d others", good, bad)
	}
}

// damageTerm changes something in a term, or nothing.
func (g generator) damageTerm(x api.Grammar, y api.Term) api.Term {
	y = copyOf(y)
	i := g.IntN(len(y.Nodes))
	switch g.IntN(12) {
	case 0:
		y.Nodes[i].Production += pick(g, -1, 1)
	case 1:
		y.Nodes[i].Token += pick(g, -1, 1)
	case 2:
		y.Nodes[i].Text = pick(g, "x", "", "ab", "00")
	case 3:
		y.Nodes[i].Remarks = append(y.Nodes[i].Remarks, pick(g, "#", "%;", "", "a", "%1;"))
	case 4:
		y.Tail = append(y.Tail, pick(g, "#", "%;", "", "a", "%1;"))
	case 5:
		y.Nodes = slices.Delete(y.Nodes, i, i+1)
	case 6:
		y.Nodes[i] = y.Nodes[g.IntN(len(y.Nodes))]
	}
	if g.IntN(2) == 0 {
		return y
	}
	for i := range y.Nodes { // without the remarks that are not always present
		y.Nodes[i].Remarks = slices.DeleteFunc(y.Nodes[i].Remarks, func(s string) bool { return s == "#" && !diagram.Same(x.Tokens[8].If, all()) })
	}
	return y
}
