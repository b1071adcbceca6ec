package tree_test

import (
	"slices"
	"testing"

	"koine/api"
	"koine/tree"
)

// expectOrder fails unless Compare says of a list of trees that they are in ascending order.
func expectOrder(t *testing.T, g api.Grammar, ascending ...api.Tree) {
	t.Helper()
	for i, a := range ascending {
		for j, b := range ascending {
			want := 0
			switch {
			case i < j:
				want = -1
			case i > j:
				want = 1
			}
			if n := compare(t, g, a, b); n != want {
				t.Errorf("Compare of trees %d and %d: %d, want %d", i, j, n, want)
			}
		}
	}
}

// P9.1, I3: each difference decides before the next one.
func TestCompare(t *testing.T) {
	g := grammarOf(0, ordinary("x", "+"), "E = x", "E = E + E", "E =", "F = x E x")
	x := func(from, to, end int) api.Tree { return node(0, from, end, leaf(0, from, to)) }
	expectOrder(t, g, x(0, 1, 1), sum(), leaf(0, 0, 1), leaf(1, 0, 1)) // nodes have the Token -1
	expectOrder(t, g, node(0, 8, 9, leaf(0, 8, 9)), node(2, 1, 1), node(3, 0, 0, leaf(0, 0, 1), node(2, 1, 1), leaf(0, 1, 2)))
	expectOrder(t, g, node(2, 1, 9), node(2, 2, 2), node(2, 2, 3))
	expectOrder(t, g, leaf(0, 1, 9), leaf(0, 2, 3), leaf(0, 2, 4), leaf(0, 3, 4))
	e := func(from, to int) api.Tree { return node(2, from, to) }
	s := func(a, b, c api.Tree) api.Tree { return node(1, 0, 9, a, b, c) }
	expectOrder(t, g,
		s(e(1, 3), leaf(1, 3, 4), e(4, 8)),
		s(x(1, 2, 3), leaf(1, 3, 4), e(4, 9)), // the positions of all children come before the first subtree
		s(e(1, 3), leaf(1, 3, 4), e(4, 9)),
		s(x(1, 2, 3), leaf(1, 3, 5), e(4, 6)),
		s(e(1, 3), leaf(1, 3, 5), e(4, 6)),
		s(e(1, 3), leaf(1, 3, 5), e(5, 6)),
		s(e(1, 3), leaf(1, 4, 5), e(5, 6)),
		s(x(1, 2, 4), leaf(1, 1, 2), e(2, 2)),
		s(x(1, 3, 4), leaf(1, 1, 2), x(2, 3, 3)), // the first subtree that differs decides
		s(x(1, 3, 4), leaf(1, 1, 2), e(2, 3)),
		s(e(1, 4), leaf(1, 1, 2), x(2, 3, 3)),
		s(e(2, 2), leaf(1, 0, 2), e(1, 2)),
	)
	// The positions of the children of the root come before the subtree of its first child.
	deep := func(a, b int) api.Tree { return s(s(x(1, a, 3), leaf(1, 3, 4), e(4, 4)), leaf(1, 5, 6), e(b, 9)) }
	expectOrder(t, g, deep(2, 6), deep(3, 6), deep(2, 7), deep(3, 7))
}

// P9.1, I3: what cannot be compared.
func TestIncomparable(t *testing.T) {
	invalid, cyclic := broken()
	other := node(0, 0, 1, leaf(0, 0, 1))
	for _, x := range []struct {
		g    api.Grammar
		a, b api.Tree
	}{
		{invalid, sum(), other},
		{cyclic, sum(), other},
		{example(), sum()[:5], other},
		{example(), sum(), other[:1]},
		{example(), nil, other},
		{example(), sum(), nil},
	} {
		if n, m := compare(t, x.g, x.a, x.b), compare(t, x.g, x.b, x.a); n != 0 || m != 0 {
			t.Errorf("Compare of %v and %v: %d, the other way round %d", x.a, x.b, n, m)
		}
	}
}

// P9.1, I3, and P9.3: random trees of one grammar are totally ordered.
func TestTotalOrder(t *testing.T) {
	g := seeded(4)
	different := 0
	for range 500 {
		x := g.grammar()
		var trees []api.Tree
		for range 6 {
			y := g.shapedTree(x, g.IntN(8))
			trees = append(trees, y)
			if z := g.damage(y); shaped(x, z) {
				trees = append(trees, z)
			}
		}
		for _, a := range trees {
			for _, b := range trees {
				m, _ := nestOf(x, a)
				n, _ := nestOf(x, b)
				d := tree.Compare(x, a, b)
				if d != order(m, n) || d != -tree.Compare(x, b, a) || (d == 0) != slices.Equal(a, b) {
					t.Fatalf("%v and %v: %d, want %d", a, b, d, order(m, n))
				}
				if d != 0 && len(a) == len(b) {
					different++
				}
				for _, c := range trees {
					if d < 0 && tree.Compare(x, b, c) < 0 && tree.Compare(x, a, c) != -1 {
						t.Fatalf("%v, %v and %v are not in order", a, b, c)
					}
				}
			}
		}
	}
	if different < 1000 {
		t.Errorf("only %d pairs of trees of the same size differ", different)
	}
}

func shaped(g api.Grammar, x api.Tree) bool {
	_, ok := nestOf(g, x)
	return ok
}

// P9.3: trees that differ in one subtree are ordered like these subtrees.
func TestOneSubtree(t *testing.T) {
	g := seeded(5)
	compared := 0
	for range 1500 {
		x := g.grammar()
		y, u := g.shapedTree(x, g.IntN(15)), g.shapedTree(x, g.IntN(6))
		for i := range y {
			part, _ := tree.Subtree(x, y, i)
			u[0].From, u[0].To = y[i].From, y[i].To
			z, e := tree.Replace(x, y, i, u)
			if e != api.OK {
				continue // another symbol, or a leaf that is empty now
			}
			if d := tree.Compare(x, part, u); tree.Compare(x, y, z) != d || tree.Compare(x, z, y) != -d {
				t.Fatalf("node %d of %v by %v: the subtrees are ordered %d", i, y, u, d)
			} else if d != 0 {
				compared++
			}
		}
	}
	if compared < 1000 {
		t.Errorf("only %d trees were compared", compared)
	}
}
