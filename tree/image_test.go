package tree_test

import (
	"slices"
	"testing"

	"koine/api"
	"koine/diagram"
	"koine/scanner"
	"koine/tree"
)

// expectImage fails unless Map returns the image of a term, also by the authority.
func expectImage(t *testing.T, g, h api.Grammar, m api.Mapping, x, want api.Term) {
	t.Helper()
	if y, e := mapped(t, g, h, m, x); e != api.OK || !equal(y, want) || !equal(imageTerm(g, h, m, x), want) {
		t.Errorf("Map of %v: %v, error %d, want %v", x, y, e, want)
	}
}

// P9.1, I7: the chapter's examples.
func TestMapExamples(t *testing.T) {
	remark := api.Token{Name: "remark", Class: api.Remark, Literal: "/*a*/", If: all()}
	g := grammarOf(0, append(ordinary("x", "+"), token(api.Layout, " ", all()), remark), "E = x", "E = E + E")
	of := func(s string, x api.Tree) api.Term { return sure(tree.Term(g, s, sure(scanner.Plain(g, 0, s)), x)) }
	before := of("x + /*a*/ x", node(1, 0, 11, node(0, 0, 2, leaf(0, 0, 1)), leaf(1, 2, 3), node(0, 10, 11, leaf(0, 10, 11))))
	after := of("/*a*/ x + x", node(1, 6, 11, node(0, 6, 8, leaf(0, 6, 7)), leaf(1, 8, 9), node(0, 10, 11, leaf(0, 10, 11))))
	expectImage(t, g, g, api.Mapping{rewrite(1, made(1, hole(2), fresh(1, "+"), hole(0)))}, before, after)
	expectImage(t, g, g, api.Mapping{rewrite(1, hole(0))}, before, term(branch(0, word(0, "x")), "/*a*/"))
}

// P9.1, I7: rewrites of all nodes of a production, and nodes that stay.
func TestMap(t *testing.T) {
	g, h := from(), to()
	x, y := branch(0, word(0, "x")), branch(4, word(2, "y"))
	plus, nothing := branch(2, word(1, "+")), branch(3)
	m := api.Mapping{always()}
	expectImage(t, g, h, m, term(x), term(x))
	expectImage(t, g, h, m, term(nothing), term(nothing))
	expectImage(t, g, h, m, term(branch(1, x, plus, y)), term(branch(1, x, y, plus)))
	expectImage(t, g, h, m, term(branch(1, branch(1, x, plus, y), nothing, branch(1, y, nothing, x))), term(branch(1, branch(1, x, y, plus), branch(1, y, x, nothing), nothing)))

	// A rewrite to one of its holes, under other nodes and above them.
	m = api.Mapping{rewrite(1, hole(2))}
	expectImage(t, g, h, m, term(branch(1, x, plus, branch(1, x, plus, y))), term(y))

	// Templates are not mapped themselves.
	m = api.Mapping{rewrite(1, made(5, hole(0), fresh(3, "-"), made(1, hole(2), made(4, fresh(2, "z")), hole(1)))), rewrite(4, made(0, fresh(0, "x")))}
	expectImage(t, g, h, m, term(branch(1, y, plus, x)), term(branch(5, x, word(3, "-"), branch(1, x, branch(4, word(2, "z")), plus))))

	// Holes of tokens keep their texts.
	m = api.Mapping{always(), rewrite(4, made(1, made(4, hole(0)), made(4, fresh(2, "b")), made(3)))}
	expectImage(t, g, h, m, term(branch(4, word(2, "a"))), term(branch(1, branch(4, word(2, "a")), branch(4, word(2, "b")), branch(3))))

	// The texts of a term, and what is present, play no part.
	h.Tokens[2].If, h.Productions[4].If = none(), none()
	expectImage(t, g, h, api.Mapping{always()}, term(branch(4, word(2, "+", ""))), term(branch(4, word(2, "+", ""))))
}

// P9.1, I7: the first rewrite that applies is used.
func TestFirstRewrite(t *testing.T) {
	g, h := from(), to()
	x, y := branch(0, word(0, "x")), branch(4, word(2, "y"))
	plus, nothing := branch(2, word(1, "+")), branch(3)
	name := func(s string) stencil { return made(4, fresh(2, s)) }
	named := func(s string) api.Term { return term(branch(4, word(2, s))) }
	first, second, third, last := rewriteAt(1, 0, 0, name("first")), rewriteAt(1, 1, 2, name("second")), rewriteAt(1, 2, 4, name("third")), rewrite(1, name("last"))
	a, b, c, d := term(branch(1, x, plus, y)), term(branch(1, y, plus, y)), term(branch(1, y, nothing, y)), term(branch(1, y, nothing, x))
	for _, k := range []struct {
		m    api.Mapping
		want [4]string
	}{
		{api.Mapping{first, second, third, last}, [4]string{"first", "second", "third", "last"}},
		{api.Mapping{third, second, first, last}, [4]string{"third", "third", "third", "last"}},
		{api.Mapping{second, third, first, last}, [4]string{"second", "second", "third", "last"}},
		{api.Mapping{second, last, first, third}, [4]string{"second", "second", "last", "last"}},
		{api.Mapping{last, first, second, third}, [4]string{"last", "last", "last", "last"}},
		{api.Mapping{rewriteAt(1, 1, 2, name("a")), second, rewrite(1, name("b")), last}, [4]string{"a", "a", "b", "b"}},
		{api.Mapping{rewriteAt(1, 1, 3, name("a")), second}, [4]string{"second", "second", "a", "a"}},
	} {
		for i, x := range []api.Term{a, b, c, d} {
			expectImage(t, g, h, k.m, x, named(k.want[i]))
		}
	}
	// Without a rewrite that applies, a node stays if the production is the same.
	m := api.Mapping{rewriteAt(1, 0, 0, hole(2))}
	expectImage(t, g, g, m, term(branch(1, y, plus, branch(1, x, nothing, y))), term(branch(1, y, plus, y)))
}

// P9.1, I7: the holes of a rewrite of nodes with a certain child.
func TestHoles(t *testing.T) {
	g, h := from(), to()
	e := func(s string) list { return branch(4, word(2, s)) }
	plus, nothing := branch(2, word(1, "+")), branch(3)
	x := term(branch(1, branch(1, e("a"), plus, e("b")), nothing, branch(1, e("c"), nothing, branch(1, e("d"), plus, e("e")))))
	left := rewriteAt(1, 0, 1, made(1, hole(0), made(1, hole(2), hole(4), hole(3)), hole(1)))
	expectImage(t, g, h, api.Mapping{left, always()}, x,
		term(branch(1, e("a"), branch(1, e("b"), branch(1, e("c"), branch(1, e("d"), e("e"), plus), nothing), nothing), plus)))
	right := rewriteAt(1, 2, 1, made(1, made(1, hole(0), hole(2), hole(1)), hole(4), hole(3)))
	expectImage(t, g, h, api.Mapping{right, always()}, x,
		term(branch(1, branch(1, branch(1, e("a"), e("b"), plus), e("c"), nothing), branch(1, e("d"), e("e"), plus), nothing)))
	leafHole := rewriteAt(1, 1, 2, made(1, hole(0), hole(2), made(2, hole(1))))
	noHole := rewriteAt(1, 1, 3, made(1, hole(0), hole(1), made(7, fresh(3, "-"), fresh(3, "-"))))
	minus := branch(7, word(3, "-"), word(3, "-"))
	expectImage(t, g, h, api.Mapping{leafHole, noHole}, x,
		term(branch(1, branch(1, e("a"), e("b"), plus), branch(1, e("c"), branch(1, e("d"), e("e"), plus), minus), minus)))
}

// P9.1, I7: remarks of leaves, dropped and not.
func TestMapRemarks(t *testing.T) {
	g := grammarOf(0, append(ordinary("a", "b", "c", "d", "e"), token(api.Remark, "#", all())), "S = a B c D e", "B = b", "D = d")
	x := term(branch(0, word(0, "a", "a1", "a2"), branch(1, word(1, "b", "b1")), word(2, "c"), branch(2, word(3, "d", "d1", "d2")), word(4, "e", "e1")), "t1", "t2")
	h := grammarOf(0, g.Tokens, "S = a B c D e", "B = b", "D = d", "S = e D B a", "S = B", "S = D", "S =", "S = c", "B =", "D = b")
	h.Nonterminals = g.Nonterminals
	for _, k := range []struct {
		m    api.Mapping
		want api.Term
	}{
		{nil, x},
		// all leaves in another order: they keep their own remarks
		{api.Mapping{rewrite(0, made(3, hole(4), hole(3), hole(1), hole(0)))},
			term(branch(3, word(4, "e", "e1"), branch(2, word(3, "d", "d1", "d2")), branch(1, word(1, "b", "b1")), word(0, "a", "a1", "a2")), "t1", "t2")},
		// the first leaves are dropped
		{api.Mapping{rewrite(0, made(5, hole(3)))}, term(branch(5, branch(2, word(3, "d", "a1", "a2", "b1", "d1", "d2"))), "e1", "t1", "t2")},
		// the last leaves are dropped
		{api.Mapping{rewrite(0, made(4, hole(1)))}, term(branch(4, branch(1, word(1, "b", "a1", "a2", "b1"))), "d1", "d2", "e1", "t1", "t2")},
		// a leaf in between, without remarks of its own
		{api.Mapping{rewrite(0, made(7, hole(2)))}, term(branch(7, word(2, "c", "a1", "a2", "b1")), "d1", "d2", "e1", "t1", "t2")},
		// all leaves
		{api.Mapping{rewrite(0, made(6))}, term(branch(6), "a1", "a2", "b1", "d1", "d2", "e1", "t1", "t2")},
		// leaves of the template have no remarks
		{api.Mapping{rewrite(0, made(0, fresh(0, "a"), hole(1), fresh(2, "c"), made(2, fresh(3, "d")), hole(4)))},
			term(branch(0, word(0, "a"), branch(1, word(1, "b", "a1", "a2", "b1")), word(2, "c"), branch(2, word(3, "d")), word(4, "e", "d1", "d2", "e1")), "t1", "t2")},
		// the next leaf is in an earlier place
		{api.Mapping{rewrite(0, made(3, hole(4), hole(3), made(1, fresh(1, "b")), fresh(0, "a")))},
			term(branch(3, word(4, "e", "e1"), branch(2, word(3, "d", "a1", "a2", "b1", "d1", "d2")), branch(1, word(1, "b")), word(0, "a")), "t1", "t2")},
		// leaves that are dropped below
		{api.Mapping{rewrite(1, made(8)), rewrite(2, made(9, fresh(1, "b")))},
			term(branch(0, word(0, "a", "a1", "a2"), branch(8), word(2, "c", "b1"), branch(9, word(1, "b")), word(4, "e", "d1", "d2", "e1")), "t1", "t2")},
		// leaves of a child in whose place its children are
		{api.Mapping{rewriteAt(0, 1, 1, made(4, made(1, hole(1))))}, term(branch(4, branch(1, word(1, "b", "a1", "a2", "b1"))), "d1", "d2", "e1", "t1", "t2")},
		{api.Mapping{rewriteAt(0, 3, 2, made(3, hole(4), made(2, hole(3)), made(8), hole(0)))},
			term(branch(3, word(4, "e", "e1"), branch(2, word(3, "d", "b1", "d1", "d2")), branch(8), word(0, "a", "a1", "a2")), "t1", "t2")},
	} {
		expectImage(t, g, h, k.m, x, k.want)
	}
}

// remarksOf returns all remarks of a term, sorted.
func remarksOf(x api.Term) []string {
	list := slices.Clone(x.Tail)
	for _, n := range x.Nodes {
		list = append(list, n.Remarks...)
	}
	slices.Sort(list)
	return list
}

// P9.1, I7, and P9.5: the images of random terms under random mappings.
func TestImagesRandom(t *testing.T) {
	g := seeded(9)
	images, dropped, divided := 0, 0, 0
	for range 4000 {
		x := g.grammar()
		y := g.other(x)
		m := g.mapping(x, y)
		if !isMapping(x, y, m) {
			continue
		}
		for left := range x.Nonterminals {
			z, ok := g.term(x, left, g.IntN(12))
			if !ok {
				continue
			}
			w, e := mapped(t, x, y, m, z)
			if e != api.OK || !equal(w, imageTerm(x, y, m, z)) {
				t.Fatalf("%v from %v to %v of %v: %v, error %d", m, x, y, z, w, e)
			}
			if root, ok := termNest(y, w); !ok || root.symbol != (api.Symbol{Index: left}) || !slices.Equal(remarksOf(z), remarksOf(w)) {
				t.Fatalf("%v is not an image of %v", w, z)
			}
			images++
			if len(w.Tail) > len(z.Tail) {
				dropped++
			}
			if slices.ContainsFunc(m, func(r api.Rewrite) bool { return r.At >= 0 }) {
				divided++
			}
			expectTermWhere(t, x, y, left, z, w)
		}
	}
	if images < 2000 || dropped < 200 || divided < 1000 {
		t.Errorf("only %d images, %d with dropped leaves, %d with divided rewrites", images, dropped, divided)
	}
}

// expectTermWhere fails unless the image of a term is one in each configuration of both families in which the term is one and the image's productions and tokens are present.
func expectTermWhere(t *testing.T, g, h api.Grammar, left int, x, image api.Term) {
	t.Helper()
	for _, c := range family(g) {
		if !diagram.Holds(h.Family, c) || tree.CheckTerm(g, c, left, x) != api.OK {
			continue
		}
		present := true
		for _, n := range image.Nodes {
			if n.Production == -1 {
				present = present && diagram.Holds(h.Tokens[n.Token].If, c)
			} else {
				present = present && diagram.Holds(h.Productions[n.Production].If, c)
			}
		}
		if e := tree.CheckTerm(h, c, left, image); present != (e == api.OK) {
			t.Fatalf("the image %v of %v in configuration %d: error %d", image, x, c, e)
		}
	}
}

// P9.5: the empty mapping leads from a grammar to itself, and maps every term to itself.
func TestEmptyMapping(t *testing.T) {
	g := seeded(10)
	for range 300 {
		x := g.grammar()
		if e := checkMapping(t, x, x, nil); e != api.OK {
			t.Fatalf("from %v to itself: error %d", x, e)
		}
		for left := range x.Nonterminals {
			if y, ok := g.term(x, left, g.IntN(12)); ok {
				z, e := mapped(t, x, x, api.Mapping{}, y)
				if e != api.OK || !equal(z, y) || !same(t, z, y) {
					t.Fatalf("%v is mapped to %v, error %d", y, z, e)
				}
			}
		}
	}
}

// P9.6: a derivation tree has only the positions that follow from the words, the productions and the tokens.
func TestPositions(t *testing.T) {
	g := seeded(11)
	refused := 0
	for range 400 {
		x := g.grammar()
		for _, c := range family(x) {
			s, ok := g.sample(t, x, c, g.IntN(12))
			if !ok {
				continue
			}
			n, _ := nestOf(x, s.tree)
			if y := placed(n, s.plain).tree(); !equal(y, s.tree) {
				t.Fatalf("%v of %q has other positions: %v", s.tree, s.text, y)
			}
			for i := range s.tree {
				for _, by := range []api.Node{{From: -1}, {From: 1}, {To: -1}, {To: 1}, {From: -1, To: -1}, {From: 1, To: 1}} {
					y := slices.Clone(s.tree)
					y[i].From += by.From
					y[i].To += by.To
					if e := tree.Check(x, c, s.plain, y); e != api.ErrTree {
						t.Fatalf("%v of %q: error %d", y, s.text, e)
					}
					refused++
				}
			}
		}
	}
	if refused < 5000 {
		t.Errorf("only %d trees with other positions", refused)
	}
}

// P9.6: derivation trees of one text with the same productions and tokens are equal.
func TestDetermined(t *testing.T) {
	g := seeded(12)
	accepted, refused := 0, 0
	for range 300 {
		x := g.grammar()
		for _, c := range family(x) {
			s, ok := g.sample(t, x, c, 6)
			if !ok {
				continue
			}
			offsets := []int{0, s.plain.End}
			for _, w := range slices.Concat(s.plain.Words, s.plain.Remarks) {
				offsets = append(offsets, w.From, w.To)
			}
			for range 50 {
				y := slices.Clone(s.tree)
				for range 1 + g.IntN(3) {
					i := g.IntN(len(y))
					y[i].From, y[i].To = pick(g, offsets...), pick(g, offsets...)
				}
				switch e := tree.Check(x, c, s.plain, y); {
				case e == api.ErrTree && !equal(y, s.tree):
					refused++
				case e == api.OK && equal(y, s.tree):
					accepted++
				default:
					t.Fatalf("%v of %q like %v: error %d", y, s.text, s.tree, e)
				}
			}
		}
	}
	if accepted < 100 || refused < 5000 {
		t.Errorf("%d trees were accepted, %d refused", accepted, refused)
	}
}
