package tree_test

import (
	"slices"
	"testing"

	"koine/api"
	"koine/tree"
)

// P9.1, I2: the chapter's example.
func TestKidsExample(t *testing.T) {
	for i, want := range [][]int{{1, 3, 4}, {2}, nil, nil, {5}, nil} {
		if list, ok := kids(t, example(), sum(), i); !ok || !slices.Equal(list, want) {
			t.Errorf("Kids of node %d: %v, %v, want %v", i, list, ok, want)
		}
	}
	for i, want := range []int{6, 3, 3, 4, 6, 6} {
		if n, ok := behind(t, example(), sum(), i); !ok || n != want {
			t.Errorf("Behind of node %d: %d, %v, want %d", i, n, ok, want)
		}
	}
}

// P9.1, I2: nodes without children, and a leaf alone.
func TestKids(t *testing.T) {
	g := grammarOf(0, ordinary("x", "y"), "S = N y N N", "N =", "N = x")
	x := node(0, 0, 3, node(1, 0, 0), leaf(1, 0, 1), node(2, 1, 3, leaf(0, 1, 2)), node(1, 3, 3))
	for i, want := range [][]int{{1, 2, 3, 5}, nil, nil, {4}, nil, nil} {
		if list, ok := kids(t, g, x, i); !ok || !slices.Equal(list, want) {
			t.Errorf("Kids of node %d: %v, %v, want %v", i, list, ok, want)
		}
	}
	if list, ok := kids(t, g, leaf(1, 0, 1), 0); !ok || len(list) > 0 {
		t.Errorf("Kids of a leaf alone: %v, %v", list, ok)
	}
	if n, ok := behind(t, g, leaf(1, 0, 1), 0); !ok || n != 1 {
		t.Errorf("Behind of a leaf alone: %v, %v", n, ok)
	}
}

// P9.1, I2: subtrees, and trees with another subtree.
func TestReplace(t *testing.T) {
	g := grammarOf(0, ordinary("x", "+"), "E = x", "E = E + E", "F = x", "E =")
	for i, want := range []api.Tree{sum(), node(0, 0, 1, leaf(0, 0, 1)), leaf(0, 0, 1), leaf(1, 1, 2), node(0, 2, 3, leaf(0, 2, 3)), leaf(0, 2, 3)} {
		if u, e := subtree(t, g, sum(), i); e != api.OK || !equal(u, want) {
			t.Errorf("Subtree of node %d: %v, error %d", i, u, e)
		}
	}
	one, empty := node(0, 7, 8, leaf(0, 7, 9)), node(3, 5, 5)
	left, right := node(0, 0, 1, leaf(0, 0, 1)), node(0, 2, 3, leaf(0, 2, 3))
	for _, x := range []struct {
		i    int
		u    api.Tree
		want api.Tree
	}{
		{0, one, one},
		{0, sum(), sum()},
		{1, empty, node(1, 0, 3, empty, leaf(1, 1, 2), right)},
		{1, sum(), node(1, 0, 3, sum(), leaf(1, 1, 2), right)},
		{2, leaf(0, 8, 9), node(1, 0, 3, node(0, 0, 1, leaf(0, 8, 9)), leaf(1, 1, 2), right)},
		{3, leaf(1, 0, 9), node(1, 0, 3, left, leaf(1, 0, 9), right)},
		{4, one, node(1, 0, 3, left, leaf(1, 1, 2), one)},
		{5, leaf(0, 1, 2), node(1, 0, 3, left, leaf(1, 1, 2), node(0, 2, 3, leaf(0, 1, 2)))},
	} {
		if y, e := replace(t, g, sum(), x.i, x.u); e != api.OK || !equal(y, x.want) {
			t.Errorf("Replace of node %d by %v: %v, error %d, want %v", x.i, x.u, y, e, x.want)
		}
	}
	for i, u := range map[int]api.Tree{0: leaf(0, 0, 1), 1: node(2, 0, 1, leaf(0, 0, 1)), 2: leaf(1, 0, 1), 3: leaf(0, 1, 2), 4: leaf(0, 2, 3), 5: node(0, 2, 3, leaf(0, 2, 3))} {
		if _, e := replace(t, g, sum(), i, u); e != api.ErrArg {
			t.Errorf("Replace of node %d by a tree of another symbol: error %d", i, e)
		}
	}
}

// P9.1, I2: errors in their order.
func TestSubtreeErrors(t *testing.T) {
	invalid, cyclic := broken()
	unshaped := sum()[:5]
	for k, x := range []struct {
		g    api.Grammar
		x    api.Tree
		i    int
		u    api.Tree
		part api.Errno // of Subtree
		want api.Errno // of Replace
	}{
		{invalid, unshaped, -1, nil, api.ErrToken, api.ErrToken},
		{cyclic, unshaped, -1, nil, api.ErrCycle, api.ErrCycle},
		{example(), unshaped, -1, nil, api.ErrTree, api.ErrTree},
		{example(), unshaped, 0, leaf(0, 0, 1), api.ErrTree, api.ErrTree},
		{example(), nil, 0, leaf(0, 0, 1), api.ErrTree, api.ErrTree},
		{example(), sum(), -1, nil, api.ErrArg, api.ErrArg},
		{example(), sum(), 6, unshaped, api.ErrArg, api.ErrArg},
		{example(), sum(), 5, unshaped, api.OK, api.ErrTree},
		{example(), sum(), 5, nil, api.OK, api.ErrTree},
		{example(), sum(), 0, leaf(0, 0, 1), api.OK, api.ErrArg},
		{example(), sum(), 5, leaf(0, 0, 1), api.OK, api.OK},
	} {
		if _, e := subtree(t, x.g, x.x, x.i); e != x.part {
			t.Errorf("case %d: Subtree returns error %d, want %d", k, e, x.part)
		}
		if _, e := replace(t, x.g, x.x, x.i, x.u); e != x.want {
			t.Errorf("case %d: Replace returns error %d, want %d", k, e, x.want)
		}
		_, isBehind := behind(t, x.g, x.x, x.i)
		_, areKids := kids(t, x.g, x.x, x.i)
		if isBehind != (x.part == api.OK) || areKids != isBehind {
			t.Errorf("case %d: Behind returns %v, Kids %v", k, isBehind, areKids)
		}
	}
}

// shapedTree returns a shaped tree with arbitrary positions, perhaps a leaf, for a grammar in which some nonterminal derives something.
func (g generator) shapedTree(x api.Grammar, most int) api.Tree {
	m := g.maker(x)
	if g.IntN(10) == 0 {
		from := g.IntN(3)
		return leaf(g.IntN(len(x.Tokens)), from, from+1+g.IntN(2))
	}
	var list []int
	for left, height := range m.heights {
		if height < far {
			list = append(list, left)
		}
	}
	y := m.derive(pick(g, list...), most).tree()
	for i := range y {
		y[i].From = g.IntN(2)
		y[i].To = y[i].From + g.IntN(2)
		if y[i].Production == -1 {
			y[i].To++
		}
	}
	return y
}

// P9.1, I2: random trees, also damaged ones.
func TestSubtreesRandom(t *testing.T) {
	g := seeded(2)
	replaced := 0
	for range 500 {
		x := g.grammar()
		y, u := g.shapedTree(x, g.IntN(12)), g.shapedTree(x, g.IntN(8))
		if g.IntN(3) == 0 {
			y = g.damage(y)
		}
		whole, ok := nestOf(x, y)
		for i := range y {
			part, _ := whole.at(i)
			n, isBehind := behind(t, x, y, i)
			list, areKids := kids(t, x, y, i)
			sub, e := subtree(t, x, y, i)
			if isBehind != ok || areKids != ok || (e == api.OK) != ok {
				t.Fatalf("%v of %v: shaped: %v, %v, %v, want %v", y, x, isBehind, areKids, e, ok)
			}
			if !ok {
				continue
			}
			var indexes []int
			for _, k := range part.kids {
				indexes = append(indexes, k.index)
			}
			if !equal(sub, part.tree()) || n != i+len(part.tree()) || !slices.Equal(list, indexes) {
				t.Fatalf("node %d of %v of %v: %d, %v, %v", i, y, x, n, list, sub)
			}
			if expectReplaced(t, x, y, i, u, part) {
				replaced++
			}
		}
	}
	if replaced < 300 {
		t.Errorf("only %d subtrees were replaced", replaced)
	}
}

// expectReplaced fails unless Replace puts a tree in the place of a part of another one, if both have the same symbol. It returns whether they have.
func expectReplaced(t *testing.T, g api.Grammar, x api.Tree, i int, u api.Tree, part nest) bool {
	t.Helper()
	root, _ := nestOf(g, u)
	y, e := replace(t, g, x, i, u)
	if root.symbol != part.symbol {
		if e != api.ErrArg {
			t.Fatalf("node %d of %v by %v: error %d", i, x, u, e)
		}
		return false
	}
	want := slices.Concat(x[:i], u, x[i+len(part.tree()):])
	if e != api.OK || !equal(y, want) {
		t.Fatalf("node %d of %v by %v: %v, error %d", i, x, u, y, e)
	}
	return true
}

// P9.2: the subtrees of the children follow one another, and replacing a subtree does only that.
func TestSubtreePromise(t *testing.T) {
	g := seeded(3)
	for range 400 {
		x := g.grammar()
		y, u := g.shapedTree(x, g.IntN(15)), g.shapedTree(x, g.IntN(8))
		for i := range y {
			end, _ := tree.Behind(x, y, i)
			list, _ := tree.Kids(x, y, i)
			next := i + 1
			for _, k := range list {
				if k != next {
					t.Fatalf("child %d of node %d of %v does not begin at %d", k, i, y, next)
				}
				next, _ = tree.Behind(x, y, k)
			}
			if next != end {
				t.Fatalf("the children of node %d of %v end at %d, not at %d", i, y, next, end)
			}
			part, _ := tree.Subtree(x, y, i)
			if z, e := tree.Replace(x, y, i, part); e != api.OK || !equal(z, y) {
				t.Fatalf("node %d of %v by itself: %v, error %d", i, y, z, e)
			}
			z, e := tree.Replace(x, y, i, u)
			if e == api.ErrArg {
				continue
			}
			if again, f := tree.Subtree(x, z, i); e != api.OK || f != api.OK || !equal(again, u) {
				t.Fatalf("node %d of %v by %v: the subtree is %v, errors %d and %d", i, y, u, again, e, f)
			}
		}
	}
}
