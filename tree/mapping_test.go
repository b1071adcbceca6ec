package tree_test

import (
	"slices"
	"strconv"
	"testing"

	"koine/api"
)

// from and to are the grammars of the mappings below. All nodes can stay, but for those of production 1.
func from() api.Grammar {
	return grammarOf(0, ordinary("x", "+", "/[a-z][a-z]*/"), "E = x", "E = E O E", "O = +", "O =", "E = /[a-z][a-z]*/")
}

func to() api.Grammar {
	tokens := append(ordinary("x", "+", "/[a-z][a-z]*/", "-", "/0(0)*|()/"), token(api.Layout, " ", all()), token(api.Remark, "#", all()))
	return grammarOf(0, tokens, "E = x", "E = E E O", "O = +", "O =", "E = /[a-z][a-z]*/", "E = E - E", "L = - E", "O = - -", "E = L", "O = /0(0)*|()/ /[a-z][a-z]*/")
}

// always is a rewrite of production 1, with which a mapping can lead from from() to to().
func always() api.Rewrite { return rewrite(1, made(1, hole(0), hole(2), hole(1))) }

// A rewriteCase is a rewrite.
type rewriteCase struct {
	name string
	api.Rewrite
}

// expectMapping fails unless CheckMapping returns an error, or OK, also by the authority.
func expectMapping(t *testing.T, name string, g, h api.Grammar, m api.Mapping, want api.Errno) {
	t.Helper()
	if e := checkMapping(t, g, h, m); e != want || isMapping(g, h, m) != (e == api.OK) {
		t.Errorf("%s: error %d, want %d", name, e, want)
	}
}

// expectRewrites fails unless mappings with one of some rewrites lead from from() to to() or not, as is said.
func expectRewrites(t *testing.T, want api.Errno, cases ...rewriteCase) {
	t.Helper()
	for _, x := range cases {
		expectMapping(t, x.name, from(), to(), api.Mapping{always(), x.Rewrite}, want)
		expectMapping(t, x.name+", first", from(), to(), api.Mapping{x.Rewrite, always()}, want)
	}
}

// P9.1, I6: what templates are.
func TestTemplates(t *testing.T) {
	x, minus := made(0, fresh(0, "x")), fresh(3, "-")
	expectRewrites(t, api.OK,
		rewriteCase{"a hole", rewrite(1, hole(0))},
		rewriteCase{"the last hole", rewrite(1, hole(2))},
		rewriteCase{"a node", rewrite(1, x)},
		rewriteCase{"a node without children", rewrite(2, made(3))},
		rewriteCase{"nodes in nodes", rewrite(1, made(5, made(5, hole(2), minus, hole(0)), minus, made(1, x, x, hole(1))))},
		rewriteCase{"not all holes", rewrite(1, made(5, hole(2), minus, made(4, fresh(2, "x"))))},
		rewriteCase{"a hole of a token", rewrite(0, made(0, hole(0)))},
		rewriteCase{"a text that a pattern matches", rewrite(0, made(4, fresh(2, "abc")))},
		rewriteCase{"an empty text that a pattern matches", rewrite(2, made(9, fresh(4, ""), fresh(2, "a")))},
		rewriteCase{"further nonterminals", rewrite(0, made(8, made(6, minus, x)))},
		rewriteCase{"the nonterminal of the root, not its production", rewrite(3, made(7, minus, minus))},
		rewriteCase{"a hole of the same symbol from elsewhere", rewrite(1, made(5, hole(2), minus, hole(0)))},
	)
	expectRewrites(t, api.ErrMapping,
		rewriteCase{"nothing", rewrite(1, nil)},
		rewriteCase{"a child less", rewrite(1, made(5, hole(0), minus))},
		rewriteCase{"a child more", rewrite(1, made(5, hole(0), minus, hole(2), hole(1)))},
		rewriteCase{"two templates", rewrite(1, slices.Concat(x, x))},
		rewriteCase{"a leaf", rewrite(0, fresh(0, "x"))},
		rewriteCase{"a hole of a token as the root", rewrite(0, hole(0))},
		rewriteCase{"a hole of another nonterminal as the root", rewrite(1, hole(1))},
		rewriteCase{"a node of another nonterminal as the root", rewrite(1, made(2, fresh(1, "+")))},
		rewriteCase{"a node of a further nonterminal as the root", rewrite(1, made(6, minus, x))},
		rewriteCase{"another token in the place of a token", rewrite(1, made(0, fresh(1, "+")))},
		rewriteCase{"a nonterminal in the place of a token", rewrite(1, made(0, made(3)))},
		rewriteCase{"a nonterminal's hole in the place of a token", rewrite(1, made(0, hole(0)))},
		rewriteCase{"a token in the place of a nonterminal", rewrite(1, made(5, fresh(0, "x"), minus, x))},
		rewriteCase{"a token's hole in the place of a nonterminal", rewrite(0, made(5, hole(0), minus, x))},
		rewriteCase{"a token's hole in the place of another token", rewrite(0, made(4, hole(0)))},
		rewriteCase{"another nonterminal in the place of a nonterminal", rewrite(1, made(5, made(3), minus, x))},
		rewriteCase{"another nonterminal's hole in the place of a nonterminal", rewrite(1, made(5, hole(1), minus, x))},
		rewriteCase{"a hole twice", rewrite(1, made(5, hole(0), minus, hole(0)))},
		rewriteCase{"a hole that does not exist", rewrite(1, hole(3))},
		rewriteCase{"a hole of a rewrite without holes", rewrite(3, hole(0))},
		rewriteCase{"another text than the literal", rewrite(1, made(0, fresh(0, "y")))},
		rewriteCase{"no text", rewrite(1, made(0, fresh(0, "")))},
		rewriteCase{"a text that the pattern does not match", rewrite(1, made(4, fresh(2, "a1")))},
		rewriteCase{"an empty text that the pattern does not match", rewrite(1, made(4, fresh(2, "")))},
		rewriteCase{"a layout token", rewrite(1, made(0, fresh(5, " ")))},
		rewriteCase{"a production that does not exist", rewrite(1, made(10))},
		rewriteCase{"a token that does not exist", rewrite(1, made(0, fresh(7, "x")))},
	)
}

// P9.1, I6: nodes of templates that are none.
func TestTemplateNodes(t *testing.T) {
	x := made(5, hole(0), fresh(3, "-"), made(0, fresh(0, "x")))
	changes := []struct {
		at  int
		new api.TemplateNode
	}{
		{0, api.TemplateNode{Hole: -1, Production: 5, Token: 0}},
		{0, api.TemplateNode{Hole: -1, Production: 5, Token: -1, Text: "x"}},
		{0, api.TemplateNode{Hole: -1, Production: -2, Token: -1}},
		{0, api.TemplateNode{Hole: -2, Production: 5, Token: -1}},
		{0, api.TemplateNode{Hole: 0, Production: 5, Token: -1}},
		{1, api.TemplateNode{Hole: 0, Production: -1, Token: 0}},
		{1, api.TemplateNode{Hole: 0, Production: -1, Token: -2}},
		{1, api.TemplateNode{Hole: 0, Production: -2, Token: -1}},
		{1, api.TemplateNode{Hole: 0, Production: -1, Token: -1, Text: "x"}},
		{1, api.TemplateNode{Hole: 0, Production: 0, Token: -1}},
		{1, api.TemplateNode{Hole: -1, Production: -1, Token: -1}},
		{1, api.TemplateNode{Hole: -2, Production: -1, Token: -1}},
		{2, api.TemplateNode{Hole: -1, Production: 0, Token: 3, Text: "-"}},
		{2, api.TemplateNode{Hole: 0, Production: -1, Token: 3, Text: "-"}},
		{2, api.TemplateNode{Hole: -2, Production: -1, Token: 3, Text: "-"}},
		{2, api.TemplateNode{Hole: -1, Production: -1, Token: -2, Text: "-"}},
	}
	for _, c := range changes {
		template := slices.Clone(x)
		template[c.at] = c.new
		expectRewrites(t, api.ErrMapping, rewriteCase{"a template with the node " + strconv.Itoa(c.at) + " changed", rewrite(1, template)})
	}
	expectRewrites(t, api.OK, rewriteCase{"no change", rewrite(1, x)})
}

// P9.1, I6: what a rewrite applies to, and its holes.
func TestRewrites(t *testing.T) {
	x := made(0, fresh(0, "x"))
	three := made(1, hole(0), hole(3), made(2, hole(2)))
	five := made(1, made(1, hole(0), hole(2), hole(1)), hole(4), hole(3))
	expectRewrites(t, api.OK,
		rewriteCase{"the second child", rewriteAt(1, 1, 2, made(1, hole(0), hole(2), made(2, hole(1))))},
		rewriteCase{"the second child, which has no children", rewriteAt(1, 1, 3, made(1, hole(0), hole(1), made(3)))},
		rewriteCase{"the first child", rewriteAt(1, 0, 1, five)},
		rewriteCase{"the last child", rewriteAt(1, 2, 1, made(1, hole(0), made(1, hole(2), hole(4), hole(3)), hole(1)))},
		rewriteCase{"a child with one token", rewriteAt(1, 2, 4, made(1, hole(0), made(4, hole(2)), hole(1)))},
	)
	expectRewrites(t, api.ErrMapping,
		rewriteCase{"a production that does not exist", rewrite(5, x)},
		rewriteCase{"the production -1", rewrite(-1, x)},
		rewriteCase{"no child, but its production", rewriteAt(1, -1, 0, x)},
		rewriteCase{"a child without its production", rewriteAt(1, 0, -1, x)},
		rewriteCase{"a child that does not exist", rewriteAt(1, 3, 0, x)},
		rewriteCase{"the child -2", rewriteAt(1, -2, 0, x)},
		rewriteCase{"the child -2 of -2", rewriteAt(1, -2, -2, x)},
		rewriteCase{"the child of a production without any", rewriteAt(3, 0, 0, made(3))},
		rewriteCase{"a token as the child", rewriteAt(0, 0, 0, x)},
		rewriteCase{"a production of another nonterminal", rewriteAt(1, 0, 2, x)},
		rewriteCase{"a production of another nonterminal at the second child", rewriteAt(1, 1, 0, x)},
		rewriteCase{"a production that only h has", rewriteAt(1, 0, 5, x)},
		rewriteCase{"the production -2 of a child", rewriteAt(1, 0, -2, x)},
		rewriteCase{"a hole of the children that does not exist", rewriteAt(1, 1, 3, made(1, hole(0), hole(2), made(3)))},
		rewriteCase{"holes in another order", rewriteAt(1, 1, 2, three)},
	)
}

// P9.1, I6: rewrites for each production that cannot stay.
func TestComplete(t *testing.T) {
	g, h := from(), to()
	x := made(0, fresh(0, "x"))
	at := func(at int, children ...int) api.Mapping {
		var m api.Mapping
		for _, child := range children {
			m = append(m, rewriteAt(1, at, child, x))
		}
		return m
	}
	expectMapping(t, "none", g, h, nil, api.ErrMapping)
	expectMapping(t, "always", g, h, api.Mapping{always()}, api.OK)
	expectMapping(t, "for another production", g, h, api.Mapping{rewrite(0, x), rewrite(4, x)}, api.ErrMapping)
	expectMapping(t, "each production of the second child", g, h, at(1, 3, 2), api.OK)
	expectMapping(t, "not the first production of the second child", g, h, at(1, 3), api.ErrMapping)
	expectMapping(t, "not the last production of the second child", g, h, at(1, 2, 2), api.ErrMapping)
	expectMapping(t, "each production of the first child", g, h, at(0, 0, 1, 4), api.OK)
	expectMapping(t, "each production of the last child", g, h, at(2, 4, 0, 1, 1), api.OK)
	expectMapping(t, "not all of the last child", g, h, at(2, 4, 0), api.ErrMapping)
	expectMapping(t, "some of each child", g, h, slices.Concat(at(0, 0, 1), at(1, 2), at(2, 4)), api.ErrMapping)
	expectMapping(t, "all of the second child, and others", g, h, slices.Concat(at(0, 0, 1), at(1, 2, 3), at(2, 4)), api.OK)

	// What is the same may stay, whatever its name, its presence and its number of rewrites.
	h.Productions[0].Name, h.Productions[0].If, h.Productions[2].Rank = "other", none(), api.Avoided
	expectMapping(t, "other fields", g, h, api.Mapping{always()}, api.OK)
	h.Productions[0].Left = 2
	expectMapping(t, "another left side", g, h, api.Mapping{always()}, api.ErrMapping)
	expectMapping(t, "another left side, with a rewrite", g, h, api.Mapping{always(), rewrite(0, made(4, fresh(2, "x")))}, api.OK)
	h = to()
	h.Productions[3].Right = []api.Symbol{{Token: true, Index: 1}}
	expectMapping(t, "another right side", g, h, api.Mapping{always()}, api.ErrMapping)
	h = to()
	h.Productions[2].Right = nil
	expectMapping(t, "a shorter right side", g, h, api.Mapping{always()}, api.ErrMapping)
	h = from()
	expectMapping(t, "the same grammar", g, h, nil, api.OK)
	h.Productions = h.Productions[:4]
	expectMapping(t, "a production less", g, h, nil, api.ErrMapping)
	expectMapping(t, "a production less, with a rewrite", g, h, api.Mapping{rewrite(4, x)}, api.OK)

	// No node has a child whose nonterminal has no productions; so all of them have a rewrite.
	g, h = grammarOf(0, ordinary("x"), "E = x", "E = N x"), grammarOf(0, ordinary("x"), "E = x")
	h.Nonterminals = []string{"E", "N"}
	expectMapping(t, "a child that cannot be", g, h, nil, api.OK)
}

// P9.1, I6: fewer tokens and nonterminals.
func TestCorrespondence(t *testing.T) {
	g := grammarOf(0, ordinary("x", "y"), "E = x")
	g.Nonterminals = []string{"E", "F"}
	h := copyOf(g)
	expectMapping(t, "as many", g, h, nil, api.OK)
	h.Nonterminals = []string{"G", "H", "I"}
	h.Tokens = ordinary("a", "b", "c")
	expectMapping(t, "more", g, h, nil, api.OK)
	expectMapping(t, "fewer", h, g, nil, api.ErrMapping)
	h.Nonterminals = h.Nonterminals[:1]
	expectMapping(t, "fewer nonterminals", g, h, nil, api.ErrMapping)
	h = copyOf(g)
	h.Tokens = h.Tokens[:1]
	expectMapping(t, "fewer tokens", g, h, nil, api.ErrMapping)
}

// P9.1, I6 and I7: errors in their order.
func TestMappingErrors(t *testing.T) {
	invalid, cyclic := broken()
	bad := api.Mapping{rewrite(9, nil)}
	good := term(branch(0, word(0, "x")))
	for i, x := range []struct {
		g, h       api.Grammar
		m          api.Mapping
		x          api.Term
		want, next api.Errno
	}{
		{invalid, cyclic, bad, term(nil), api.ErrToken, api.ErrToken},
		{cyclic, invalid, bad, term(nil), api.ErrCycle, api.ErrCycle},
		{from(), invalid, bad, term(nil), api.ErrToken, api.ErrToken},
		{from(), cyclic, bad, term(nil), api.ErrCycle, api.ErrCycle},
		{from(), to(), bad, term(nil), api.ErrMapping, api.ErrMapping},
		{from(), to(), nil, good, api.ErrMapping, api.ErrMapping},
		{from(), to(), api.Mapping{always()}, term(nil), api.OK, api.ErrTerm},
		{from(), to(), api.Mapping{always()}, term(word(0, "x")), api.OK, api.ErrTerm},
		{from(), to(), api.Mapping{always()}, term(branch(6, word(3, "-"), branch(0, word(0, "x")))), api.OK, api.ErrTerm},
		{from(), to(), api.Mapping{always()}, term(branch(0)), api.OK, api.ErrTerm},
		{from(), to(), api.Mapping{always()}, good, api.OK, api.OK},
	} {
		if e := checkMapping(t, x.g, x.h, x.m); e != x.want {
			t.Errorf("case %d: CheckMapping returns error %d, want %d", i, e, x.want)
		}
		if _, e := mapped(t, x.g, x.h, x.m, x.x); e != x.next {
			t.Errorf("case %d: Map returns error %d, want %d", i, e, x.next)
		}
	}
}

// P9.1, I6: random mappings, also damaged ones.
func TestMappingsRandom(t *testing.T) {
	g := seeded(8)
	good, bad := 0, 0
	for range 600 {
		x := g.grammar()
		y := g.other(x)
		m := g.mapping(x, y)
		for range 5 {
			e := checkMapping(t, x, y, m)
			if (e == api.OK) != isMapping(x, y, m) || e != api.OK && e != api.ErrMapping {
				t.Fatalf("%v from %v to %v: error %d", m, x, y, e)
			}
			if e == api.OK {
				good++
			} else {
				bad++
			}
			m = g.damageMapping(m)
		}
	}
	if good < 300 || bad < 300 {
		t.Errorf("only %d mappings and %d others", good, bad)
	}
}

// damageMapping changes something in a mapping.
func (g generator) damageMapping(m api.Mapping) api.Mapping {
	m = copyOf(m)
	if len(m) == 0 {
		return m
	}
	r := &m[g.IntN(len(m))]
	if len(r.Template) == 0 {
		return m
	}
	i, by := g.IntN(len(r.Template)), pick(g, -1, 1)
	switch g.IntN(11) {
	case 0:
		r.Production += by
	case 1:
		r.At += by
	case 2:
		r.Child += by
	case 3:
		r.Template[i].Hole += by
	case 4:
		r.Template[i].Production += by
	case 5:
		r.Template[i].Token += by
	case 6:
		r.Template[i].Text = pick(g, "x", "", "ab")
	case 7:
		r.Template = slices.Delete(r.Template, i, i+1)
	case 8:
		r.Template[i] = r.Template[g.IntN(len(r.Template))]
	case 9:
		return slices.Delete(m, 0, 1)
	}
	return m
}
