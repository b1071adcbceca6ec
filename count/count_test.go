package count_test

import (
	"math/big"
	"slices"
	"testing"

	"koine/api"
	"koine/count"
	"koine/diagram"
	"koine/forest"
	"koine/natural"
)

// one returns the tree of an operand of a sum, and plus that of a sum.
func one(from, to int) api.Tree { return branch(0, from, to, word(0, from, from+1)) }

func plus(from, at, to int, left, right api.Tree) api.Tree {
	return branch(1, from, to, left, word(1, at, at+1), right)
}

// nested returns a sum of operands of the raw forest of sums that associates to the left, or to the right.
func nested(operands int, left bool) api.Tree {
	if left {
		x := one(0, min(4, 4*operands-2))
		for i := 1; i < operands; i++ {
			if i == 1 {
				x = one(0, 2)
			}
			x = plus(0, 4*i-2, 4*i+2, x, one(4*i, 4*i+2))
		}
		return x
	}
	last := 4*operands - 2
	x := one(last-2, last)
	for i := operands - 2; i >= 0; i-- {
		x = plus(4*i, 4*i+2, last, one(4*i, 4*i+2), x)
	}
	return x
}

// expectNumber fails unless a function returns a number without an error.
func expectNumber(t *testing.T, name string, n api.Nat, e api.Errno, want int) {
	t.Helper()
	if e != api.OK || !sameNat(n, nat(want)) {
		t.Errorf("%s: %v, error %d, want %d", name, n, e, want)
	}
}

// expectTree fails unless a function returns a tree without an error.
func expectTree(t *testing.T, name string, x api.Tree, e api.Errno, want api.Tree) {
	t.Helper()
	if e != api.OK || !sameTree(x, want) {
		t.Errorf("%s: %v, error %d, want %v", name, x, e, want)
	}
}

// P12.1, L1 to L5: the chapter's examples.
func TestExamples(t *testing.T) {
	f := sums(4)
	n, e := trees(t, f, 0)
	expectNumber(t, "Trees", n, e, 5)
	x, e := unrank(t, f, 0, nat(0))
	expectTree(t, "Unrank of 0", x, e, nested(4, false))
	if x, e := unrank(t, f, 0, nat(5)); e != api.ErrRange {
		t.Errorf("Unrank of 5: %v, error %d", x, e)
	}
	n, e = rank(t, f, 0, nested(4, true))
	expectNumber(t, "Rank", n, e, 4)
	third := sure(unrank(t, f, 0, nat(3)))
	x, e = sample(t, f, 0, []uint32{5, 7, 3})
	expectTree(t, "Sample", x, e, third)
	expectTree(t, "Unrank of 3", third, api.OK, plus(0, 10, 14, plus(0, 2, 10, one(0, 2), plus(4, 6, 10, one(4, 6), one(8, 10))), one(12, 14)))
	if x, e := sample(t, f, 0, []uint32{6}); e != api.ErrRange {
		t.Errorf("Sample with 6: %v, error %d", x, e)
	}
	expectCounted(t, f, 0)
}

// L1 to L5: forests without trees, and without nodes.
func TestNoTrees(t *testing.T) {
	dead := api.Forest{
		Nodes: []api.ForestNode{node(0, 0, 1, alternative(set("A"), 0, kid(1, 0, 1))), node(1, 0, 1, alternative(set("!A"), 0, leaf(0, 0, 1)))},
		Roots: []api.Root{root(0, all())},
	}
	for _, f := range []api.Forest{{}, dead} {
		for c := range api.Config(2) {
			n, e := trees(t, f, c)
			expectNumber(t, "Trees", n, e, 0)
			for i, want := range [5]api.Errno{api.OK, api.OK, api.ErrTree, api.ErrRange, api.ErrNone} {
				for _, digits := range [][]uint32{nil, {0}, {1, 2, 3}} {
					if e := errorsOf(t, f, c, nil, nil, digits, all())[i]; e != want {
						t.Errorf("function %d returns error %d, want %d", i, e, want)
					}
				}
			}
		}
		list, e := classes(t, f, set("A || B"))
		if e != api.OK || len(list) != 1 || len(list[0].N) > 0 || !diagram.Same(list[0].If, set("A || B")) {
			t.Errorf("Classes: %v, error %d", list, e)
		}
		if list, e := classes(t, f, none()); e != api.OK || len(list) > 0 {
			t.Errorf("Classes of no configurations: %v, error %d", list, e)
		}
		expectCounted(t, f, 2)
	}
	// A root in no configuration in question.
	f := sums(2)
	f.Roots[0].If = set("A && B")
	list, e := classes(t, f, set("!A || !B && C"))
	if e != api.OK || len(list) != 1 || len(list[0].N) > 0 || !diagram.Same(list[0].If, set("!A || !B && C")) {
		t.Errorf("Classes: %v, error %d", list, e)
	}
	expectCounted(t, f, 3)
}

// L1 to L5: a forest of one tree that consists of one node, and one of one leaf.
func TestSmall(t *testing.T) {
	f := api.Forest{Nodes: []api.ForestNode{node(0, 7, 7, alternative(all(), 3))}, Roots: []api.Root{root(0, set("A"))}}
	expectCounted(t, f, 1)
	x, e := sample(t, f, 1, nil)
	expectTree(t, "Sample", x, e, branch(3, 7, 7))
	x, e = sample(t, f, 1<<40|1, []uint32{1, 2})
	expectTree(t, "Sample with digits", x, e, branch(3, 7, 7))
	f = api.Forest{Nodes: []api.ForestNode{node(0, 7, 9, alternative(all(), 0, leaf(2, 7, 8)))}, Roots: []api.Root{root(0, all())}}
	expectCounted(t, f, 0)
	for _, x := range []api.Tree{
		nil, {}, word(2, 7, 8), branch(0, 7, 9), branch(0, 7, 9, word(1, 7, 8)), branch(0, 7, 9, word(2, 7, 9)), branch(0, 7, 9, word(2, 6, 8)),
		branch(1, 7, 9, word(2, 7, 8)), branch(0, 6, 9, word(2, 7, 8)), branch(0, 7, 8, word(2, 7, 8)), branch(0, 7, 9, word(2, 7, 8), word(2, 7, 8)),
		branch(0, 7, 9, api.Tree{{Production: 0, Token: 2, From: 7, To: 8}}), branch(0, 7, 9, api.Tree{{Production: -2, Token: 2, From: 7, To: 8}}),
		{{Production: 0, Token: 0, From: 7, To: 9}, {Production: -1, Token: 2, From: 7, To: 8}}, {{Production: 0, Token: -2, From: 7, To: 9}, {Production: -1, Token: 2, From: 7, To: 8}},
		{{Production: -1, Token: -1, From: 7, To: 9}, {Production: -1, Token: 2, From: 7, To: 8}}, {{Production: 1 << 62, Token: -1, From: 7, To: 9}},
	} {
		expectRank(t, f, 0, x, -1)
	}
}

// L1, L3 to L5: roots in several configurations, and kids that have no trees in some of them.
func TestConfigurations(t *testing.T) {
	g := grammarOf(2, words("a", "+"), "E = a", "E = E + E :: A", "E = a a :: B")
	f := built(g, "#if A", "a +", "#end", "a", "#if B", "a", "#elif A", "+ a", "#end")
	expectCounted(t, f, 2)
	for c, want := range []int{1, 2, 1, 1} {
		n, e := trees(t, f, api.Config(c))
		expectNumber(t, "Trees", n, e, want)
	}
	// A tree of one configuration is none of another one.
	x := sure(unrank(t, f, 1, nat(1)))
	for c := range api.Config(4) {
		want := -1
		if c == 1 {
			want = 1
		}
		expectRank(t, f, c, x, want)
	}
	f = choices()
	f.Roots = []api.Root{root(0, all()), root(2, set("A || B")), root(4, set("B"))}
	expectCounted(t, f, 2)
}

// copies returns a forest in which trees occur several times: of two nodes that differ by their copy, of two roots, and of two nonterminals.
func copies() api.Forest {
	return api.Forest{
		Nodes: []api.ForestNode{
			node(0, 0, 1, alternative(all(), 0, leaf(0, 0, 1)), alternative(set("A"), 1, leaf(1, 0, 1))),
			copyNumber(1, node(0, 0, 1, alternative(set("B"), 0, leaf(0, 0, 1)), alternative(all(), 1, leaf(1, 0, 1)))),
			node(1, 0, 1, alternative(all(), 0, leaf(1, 0, 1)), alternative(all(), 1, leaf(0, 0, 1)), alternative(set("B"), 1, leaf(1, 0, 1))),
			node(0, 0, 3, alternative(all(), 2, kid(0, 0, 1), kid(4, 1, 3)), alternative(all(), 2, kid(1, 0, 1), kid(4, 1, 3)), alternative(all(), 2, kid(2, 0, 1), kid(4, 1, 3))),
			node(0, 1, 3, alternative(all(), 0, leaf(0, 1, 2)), alternative(all(), 0, leaf(0, 1, 3)), alternative(set("!A"), 1, leaf(0, 1, 3))),
		},
		Roots: []api.Root{root(0, all()), root(1, set("A || B")), root(2, set("B")), root(3, all())},
	}
}

// P12.2, P12.3: trees that occur several times have the number of the first time.
func TestCopies(t *testing.T) {
	f := copies()
	expectCounted(t, f, 2)
	several := 0
	for c := range api.Config(4) {
		list := treesOf(f, c)
		for i, x := range list {
			if slices.IndexFunc(list, func(y api.Tree) bool { return sameTree(x, y) }) < i {
				several++
			}
		}
	}
	if several < 20 {
		t.Errorf("only %d trees occur again", several)
	}
}

// L3: a list of nodes can be a tree in several ways, if alternatives of a production have different numbers of kids.
func TestOtherShapes(t *testing.T) {
	empty := func(n int, alternatives ...api.Alternative) api.ForestNode {
		return copyNumber(n, node(0, 0, 0, alternatives...))
	}
	f := api.Forest{
		Nodes: []api.ForestNode{
			empty(0, alternative(all(), 0, kid(1, 0, 0), kid(1, 0, 0)), alternative(all(), 0, kid(1, 0, 0), kid(2, 0, 0)), alternative(set("A"), 0, kid(1, 0, 0), kid(3, 0, 0), kid(3, 0, 0))),
			empty(1, alternative(all(), 1), alternative(all(), 1, kid(2, 0, 0)), alternative(set("B"), 1, kid(2, 0, 0), kid(3, 0, 0))),
			empty(2, alternative(all(), 2), alternative(set("B"), 2, kid(3, 0, 0)), alternative(set("A"), 2, kid(3, 0, 0), kid(3, 0, 0))),
			empty(3, alternative(all(), 2), alternative(set("A && B"), 3)),
		},
		Roots: []api.Root{root(0, all()), root(1, all()), root(2, set("A"))},
	}
	expectCounted(t, f, 2)
	for _, x := range treesOf(f, 3) {
		for i := range x {
			// What is left of a tree if a node is removed can be another tree.
			list := treesOf(f, 3)
			y := slices.Delete(slices.Clone(x), i, i+1)
			expectRank(t, f, 3, y, slices.IndexFunc(list, func(z api.Tree) bool { return sameTree(y, z) }))
		}
	}
	// The first alternative that fits at its beginning does not fit at its end.
	f = api.Forest{
		Nodes: []api.ForestNode{
			node(0, 0, 9, alternative(all(), 0, leaf(0, 0, 1)), alternative(all(), 0, leaf(0, 0, 1), leaf(0, 1, 2)), alternative(all(), 0, kid(1, 0, 9)), alternative(all(), 0, kid(1, 0, 9), kid(3, 9, 9))),
			node(1, 0, 9, alternative(all(), 1, leaf(0, 0, 1)), alternative(all(), 1, leaf(0, 0, 1), kid(2, 1, 9)), alternative(all(), 1, leaf(0, 0, 1), leaf(0, 2, 3))),
			node(0, 1, 9, alternative(all(), 2, leaf(0, 1, 2)), alternative(all(), 2, leaf(0, 1, 9), kid(3, 9, 9))),
			node(0, 9, 9, alternative(all(), 2)),
		},
		Roots: []api.Root{root(0, all())},
	}
	expectCounted(t, f, 0)
}

// L4: numbers that are not valid, and the order of the errors.
func TestUnrankErrors(t *testing.T) {
	f := sums(4)
	large := doubling(32768+1, all())
	long := make(api.Nat, api.MaxLimbs+1)
	long[api.MaxLimbs] = 1
	top := long[1:]
	for i, c := range []struct {
		f    *api.Forest
		n    api.Nat
		want api.Errno
	}{
		{&f, api.Nat{0}, api.ErrArg}, {&f, api.Nat{7, 0}, api.ErrArg}, {&f, long, api.ErrArg},
		{&large, api.Nat{0}, api.ErrArg}, {&large, long, api.ErrArg}, {&large, nil, api.ErrLarge}, {&large, top, api.ErrLarge},
		{&f, top, api.ErrRange}, {&f, nat(1 << 40), api.ErrRange}, {&f, nat(5), api.ErrRange}, {&f, nat(4), api.OK},
	} {
		x, e := count.Unrank(*c.f, 0, c.n)
		if e != c.want || (e == api.OK) != (len(x) > 0) {
			t.Errorf("case %d: %v, error %d, want %d", i, x, e, c.want)
		}
	}
}

// L1 to L5: what is too large comes before the errors of trees and of digits, and behind those of forests and of sets.
func TestLarge(t *testing.T) {
	f := doubling(32768+1, set("A"))
	for _, c := range []api.Config{0, 1} {
		list := errorsOf(t, f, c, nil, nil, nil, set("!A"))
		want := [5]api.Errno{api.OK, api.OK, api.ErrTree, api.OK, api.OK}
		if c == 1 {
			want = [5]api.Errno{api.ErrLarge, api.OK, api.ErrLarge, api.ErrLarge, api.ErrLarge}
		}
		if list != want {
			t.Errorf("configuration %d: errors %v, want %v", c, list, want)
		}
	}
	for _, c := range []struct {
		family api.Diagram
		want   api.Errno
	}{
		{all(), api.ErrLarge}, {set("A"), api.ErrLarge}, {set("A && B"), api.ErrLarge}, {set("!A"), api.OK}, {none(), api.OK},
		{api.Diagram{Root: 2}, api.ErrDiagram}, {api.Diagram{Root: -1}, api.ErrDiagram},
		{api.Diagram{Nodes: []api.Branch{{Var: 64, High: 1}}, Root: 2}, api.ErrDiagram},
		{api.Diagram{Nodes: []api.Branch{{Low: 1, High: 1}}, Root: 2}, api.ErrDiagram},
		{api.Diagram{Nodes: make([]api.Branch, api.MaxBranches+1), Root: 2}, diagram.Check(api.Diagram{Nodes: make([]api.Branch, api.MaxBranches+1), Root: 2})},
	} {
		if _, e := classes(t, f, c.family); e != c.want {
			t.Errorf("Classes for %v: error %d, want %d", c.family, e, c.want)
		}
	}
}

// doubling returns a forest of n nodes in a line, each of which has in some configurations twice as many trees as its kid. So the first one has 2^(n-1) trees there.
func doubling(n int, where api.Diagram) api.Forest {
	f := line(n)
	for i := range n - 1 {
		f.Nodes[i].Alternatives = append(f.Nodes[i].Alternatives, alternative(where, 1, kid(i+1, 3, 3)))
	}
	return f
}

// L5: draws.
func TestSample(t *testing.T) {
	for _, c := range []struct {
		f      api.Forest
		digits []uint32
		number int
		want   api.Errno
	}{
		// One tree: no digits are needed.
		{sums(1), nil, 0, api.OK}, {sums(2), nil, 0, api.OK}, {sums(2), []uint32{7}, 0, api.OK},
		// Two trees: one bit.
		{sums(3), nil, 0, api.ErrRange}, {sums(3), []uint32{0}, 0, api.OK}, {sums(3), []uint32{1}, 1, api.OK}, {sums(3), []uint32{2, 1}, 0, api.OK}, {sums(3), []uint32{1<<32 - 1}, 1, api.OK},
		// Five trees: three bits.
		{sums(4), nil, 0, api.ErrRange}, {sums(4), []uint32{4}, 4, api.OK}, {sums(4), []uint32{8, 4}, 0, api.OK}, {sums(4), []uint32{1<<31 | 2}, 2, api.OK},
		{sums(4), []uint32{5}, 0, api.ErrRange}, {sums(4), []uint32{5, 6, 7}, 0, api.ErrRange}, {sums(4), []uint32{5, 6, 7, 15, 1<<32 - 3, 12, 1}, 4, api.OK},
	} {
		x, e := sample(t, c.f, 0, c.digits)
		if e != c.want {
			t.Errorf("%v: error %d, want %d", c.digits, e, c.want)
		}
		if e == api.OK {
			expectTree(t, "Sample", x, e, sure(unrank(t, c.f, 0, nat(c.number))))
		}
	}
	// 2^32 + 1 trees: draws of two digits.
	f := doubling(33, all())
	f.Roots = append(f.Roots, root(32, all()))
	for _, c := range []struct {
		digits []uint32
		number int
		want   api.Errno
	}{
		{[]uint32{5}, 0, api.ErrRange}, {[]uint32{5, 0}, 5, api.OK}, {[]uint32{5, 2}, 5, api.OK}, {[]uint32{0, 1}, 1 << 32, api.OK}, {[]uint32{0, 3, 7, 7}, 1 << 32, api.OK},
		{[]uint32{1, 1}, 0, api.ErrRange}, {[]uint32{1, 1, 9}, 0, api.ErrRange}, {[]uint32{1, 1, 9, 1<<32 - 2}, 9, api.OK}, {[]uint32{7, 7, 7, 7, 1<<32 - 1, 0}, 1<<32 - 1, api.OK},
	} {
		x, e := sample(t, f, 0, c.digits)
		if e != c.want {
			t.Errorf("%v: error %d, want %d", c.digits, e, c.want)
		}
		if e == api.OK {
			expectTree(t, "Sample", x, e, sure(unrank(t, f, 0, nat(c.number))))
		}
	}
	// Numbers whose lowest limb is 1 are not 1.
	last := len(f.Nodes)
	f.Nodes = append(f.Nodes, node(0, 3, 4, alternative(all(), 0, kid(0, 3, 3), kid(0, 3, 3), leaf(0, 3, 4)), alternative(all(), 1, kid(32, 3, 3), kid(0, 3, 3), leaf(0, 3, 4))))
	f.Nodes[0].Alternatives = append(f.Nodes[0].Alternatives, alternative(all(), 2, kid(32, 3, 3)))
	f.Roots = []api.Root{root(last, all())}
	k := new(big.Int).Add(power(32), big.NewInt(1))
	k.Add(new(big.Int).Mul(k, k), k)
	expectBig(t, "products", f, 0, k)
	for _, number := range []*big.Int{new(big.Int).Sub(k, big.NewInt(1)), power(33), power(64), new(big.Int).Add(power(63), power(31))} {
		x, e := unrank(t, f, 0, limbs(number))
		if n, e2 := rank(t, f, 0, x); e != api.OK || e2 != api.OK || !sameNat(n, limbs(number)) {
			t.Errorf("the tree with number %v has the number %v, errors %d and %d", number, n, e, e2)
		}
	}
	// 2^32 trees: all bits of one digit.
	f = doubling(33, all())
	for _, digit := range []uint32{0, 1, 1 << 31, 1<<32 - 1} {
		x, e := sample(t, f, 0, []uint32{digit, 5})
		expectTree(t, "Sample", x, e, sure(unrank(t, f, 0, natural.Of(uint64(digit)))))
	}
}

// P12.6: a forest of a configuration that has no tree, and of one that is not good.
func TestSelected(t *testing.T) {
	g := grammarOf(2, words("a", "b"), "S = a", "S = S S :: A")
	f := built(g, "a", "#if B", "a a a", "#end", "#if A && B", "!", "#end")
	expectCounted(t, f, 2)
	for c := range api.Config(4) {
		n, e := trees(t, f, c)
		m, e2 := trees(t, forest.Select(f, c), 0)
		if e != e2 || !sameNat(n, m) {
			t.Errorf("configuration %d: %v and %v", c, n, m)
		}
	}
}
