package count_test

import (
	"math/big"
	"slices"
	"testing"

	"koine/api"
	"koine/count"
	"koine/diagram"
	"koine/natural"
)

// power returns 2^n.
func power(n int) *big.Int { return new(big.Int).Lsh(big.NewInt(1), uint(n)) }

// expectBig fails unless a forest has a number of trees for a configuration, or is too large if it is nil.
func expectBig(t *testing.T, name string, f api.Forest, c api.Config, want *big.Int) {
	t.Helper()
	n, e := count.Trees(f, c)
	if want == nil && (e != api.ErrLarge || len(n) > 0) || want != nil && (e != api.OK || !sameNat(n, limbs(want))) {
		t.Errorf("%s: %d limbs, error %d", name, len(n), e)
	}
	_, e3 := count.Rank(f, c, nil)
	_, e4 := count.Unrank(f, c, nil)
	_, e5 := count.Sample(f, c, make([]uint32, api.MaxLimbs))
	wants := [3]api.Errno{api.ErrTree, api.OK, api.OK}
	if want == nil {
		wants = [3]api.Errno{api.ErrLarge, api.ErrLarge, api.ErrLarge}
	} else if want.Sign() == 0 {
		wants = [3]api.Errno{api.ErrTree, api.ErrRange, api.ErrNone}
	}
	if got := [3]api.Errno{e3, e4, e5}; got != wants {
		t.Errorf("%s: errors %v, want %v", name, got, wants)
	}
	// The class of the configuration.
	list, e := count.Classes(f, setOf(3, []api.Config{c}))
	if want == nil && e != api.ErrLarge || want != nil && (e != api.OK || len(list) != 1 || !sameNat(list[0].N, limbs(want))) {
		t.Errorf("%s: %d classes, error %d", name, len(list), e)
	}
}

// L1 to L5: numbers of 1024 limbs, and of more.
func TestMostLimbs(t *testing.T) {
	const bits = 32 * api.MaxLimbs
	f := doubling(bits, all())
	expectBig(t, "2^32767", f, 0, power(bits-1))
	expectBig(t, "2^32768", doubling(bits+1, all()), 0, nil)
	// All nodes are roots: there are 2^32768 - 1 trees.
	for i := 1; i < bits; i++ {
		f.Roots = append(f.Roots, root(i, all()))
	}
	expectBig(t, "2^32768 - 1", f, 0, new(big.Int).Sub(power(bits), big.NewInt(1)))
	// Only all together have more.
	f.Nodes = append(f.Nodes, node(0, 4, 4, alternative(set("A"), 0)))
	f.Roots = append(f.Roots, root(bits, set("!B")))
	expectBig(t, "2^32768 - 1 with a dead root", f, 0, new(big.Int).Sub(power(bits), big.NewInt(1)))
	expectBig(t, "all together", f, 1, nil)
	expectBig(t, "all but one root", f, 3, new(big.Int).Sub(power(bits), big.NewInt(1)))
	list, e := count.Classes(f, set("!A || B"))
	if e != api.OK || len(list) != 1 || len(list[0].N) != api.MaxLimbs || !diagram.Same(list[0].If, set("!A || B")) {
		t.Errorf("%d classes, error %d", len(list), e)
	}
	// The sum of the alternatives of a node.
	f = doubling(bits, all())
	f.Nodes[0].Alternatives[1].Kids = nil
	f.Nodes[0].Alternatives[1].If = set("A || B")
	f.Nodes[0].Alternatives = append(f.Nodes[0].Alternatives, alternative(set("A"), 2, kid(1, 3, 3)))
	for c, want := range []*big.Int{power(bits - 2), power(bits - 1), power(bits - 2), power(bits - 1)} {
		expectBig(t, "a sum", f, api.Config(c), new(big.Int).Add(want, big.NewInt(int64(min(c, 1)))))
	}
}

// L1 to L5: a node that is not reached can be too large, and one that is reached cannot, even if it is in no tree.
func TestReached(t *testing.T) {
	const bits = 32 * api.MaxLimbs
	f := doubling(bits+2, all())
	// Node 1 has 2^32768 trees, node 2 half of them.
	f.Nodes[0].Alternatives = []api.Alternative{
		alternative(set("A"), 0, kid(1, 3, 3)), alternative(all(), 1, kid(2, 3, 3)), alternative(set("B"), 2, kid(2, 3, 3)), alternative(set("C"), 3, kid(3, 3, 3)),
	}
	expectBig(t, "not reached", f, 0, power(bits-1))
	expectBig(t, "reached", f, 1, nil)
	expectBig(t, "a sum that is too large", f, 2, nil)
	expectBig(t, "a sum", f, 4, new(big.Int).Add(power(bits-1), power(bits-2)))
	// A node that has no trees has a kid that is too large.
	f = doubling(bits+1, all())
	f.Nodes = append(f.Nodes,
		node(0, 3, 4, alternative(set("A"), 0, kid(0, 3, 3), leaf(0, 3, 4), kid(bits+2, 4, 4)), alternative(all(), 1, kid(bits, 3, 3), leaf(0, 3, 4))),
		node(0, 4, 4, alternative(set("B"), 0)),
	)
	f.Roots = []api.Root{root(bits+1, all())}
	expectBig(t, "not reached", f, 0, big.NewInt(1))
	expectBig(t, "not reached either", f, 2, big.NewInt(1))
	expectBig(t, "reached without trees", f, 1, nil)
	expectBig(t, "reached with trees", f, 3, nil)
	// A root that has no trees has one.
	f.Nodes[bits+1].Alternatives = f.Nodes[bits+1].Alternatives[:1]
	expectBig(t, "no trees", f, 0, new(big.Int))
	expectBig(t, "no trees of the root", f, 1, nil)
}

// L1 to L5: the kids of an alternative can together have as many trees as they like if one of them has none.
func TestZero(t *testing.T) {
	const n = 20000
	f := doubling(n, all())
	for i := range f.Nodes {
		for _, a := range f.Nodes[i].Alternatives {
			for k := range a.Kids {
				a.Kids[k].Node += 2
			}
		}
	}
	f.Nodes = append([]api.ForestNode{
		node(0, 0, 3, alternative(all(), 0, leaf(0, 0, 3)), alternative(set("!B"), 1, leaf(0, 0, 1), kid(2, 3, 3), kid(2, 3, 3), kid(1, 3, 3))),
		node(0, 3, 3, alternative(set("A"), 0)),
	}, f.Nodes...)
	for i := 2; i < len(f.Nodes); i++ {
		f.Nodes[i].Copy++
	}
	expectBig(t, "a dead kid", f, 0, big.NewInt(1))
	expectBig(t, "no dead kid", f, 1, nil)
	expectBig(t, "not present", f, 3, big.NewInt(1))
	list, e := count.Classes(f, set("!A || B"))
	if e != api.OK || len(list) != 1 || !sameNat(list[0].N, nat(1)) {
		t.Errorf("%d classes, error %d", len(list), e)
	}
	// A list of nodes in which the dead kid is missing is no tree.
	x := slices.Concat(branch(1, 0, 3, word(0, 0, 1)), doubled(n, new(big.Int)), doubled(n, power(77)))
	for _, y := range []api.Tree{x, append(x, branch(0, 3, 3)...), append(x, branch(1, 3, 3)...)} {
		if n, e := count.Rank(f, 0, y); e != api.ErrTree {
			t.Errorf("the number %v, error %d", n, e)
		}
	}
	x = branch(0, 0, 3, word(0, 0, 3))
	if n, e := count.Rank(f, 0, x); e != api.OK || len(n) > 0 {
		t.Errorf("the number %v, error %d", n, e)
	}
}

// doubled returns the tree with a number of a forest of doubling.
func doubled(n int, number *big.Int) api.Tree {
	x := make(api.Tree, n)
	for i := range x {
		x[i] = api.Node{Production: 1, Token: -1, From: 3, To: 3}
		if i < n-1 {
			x[i].Production = int(number.Bit(n - 2 - i))
		}
	}
	return x
}

// P12.3, P12.5: trees with numbers of 1024 limbs.
func TestLongest(t *testing.T) {
	const n = 32 * api.MaxLimbs
	f := doubling(n, all())
	g := seeded(9)
	last := new(big.Int).Sub(power(n-1), big.NewInt(1))
	for _, number := range []*big.Int{new(big.Int), big.NewInt(1), power(n - 2), last, new(big.Int).Rand(bigRand(g), last)} {
		want := doubled(n, number)
		if x, e := count.Unrank(f, 0, limbs(number)); e != api.OK || !sameTree(x, want) {
			t.Errorf("a tree of %d nodes, error %d", len(x), e)
		}
		if k, e := count.Rank(f, 0, want); e != api.OK || !sameNat(k, limbs(number)) {
			t.Errorf("a number of %d limbs, error %d", len(k), e)
		}
		if x, e := count.Sample(f, 0, g.digits(number, n-1)); e != api.OK || !sameTree(x, want) {
			t.Errorf("a tree of %d nodes, error %d", len(x), e)
		}
	}
	for _, number := range []*big.Int{power(n - 1), new(big.Int).Sub(power(n), big.NewInt(1))} {
		if x, e := count.Unrank(f, 0, limbs(number)); e != api.ErrRange || len(x) > 0 {
			t.Errorf("a tree of %d nodes, error %d", len(x), e)
		}
	}
	want := doubled(n, big.NewInt(5))
	want[n/2].Production = 2
	if k, e := count.Rank(f, 0, want); e != api.ErrTree {
		t.Errorf("a number of %d limbs, error %d", len(k), e)
	}
}

// L1: sums, whose numbers of trees are those of Catalan.
func TestSums(t *testing.T) {
	number := big.NewInt(1)
	for operands := 1; operands <= 90; operands++ {
		if operands%8 == 1 {
			f := sums(operands)
			expectBig(t, "sums", f, 0, number)
			if n, e := count.Rank(f, 0, nested(operands, true)); e != api.OK || !sameNat(n, limbs(new(big.Int).Sub(number, big.NewInt(1)))) {
				t.Errorf("%d operands: number %v, error %d", operands, n, e)
			}
			if n, e := count.Rank(f, 0, nested(operands, false)); e != api.OK || len(n) > 0 {
				t.Errorf("%d operands: number %v, error %d", operands, n, e)
			}
		}
		number.Mul(number, big.NewInt(int64(4*operands-2))).Div(number, big.NewInt(int64(operands+1)))
	}
}

// factors returns a forest of one node with a kid for each condition, which has twice, or a prime number of times as many trees with it as without it.
func factors(n int, prime bool) (api.Forest, []int) {
	f := api.Forest{Nodes: []api.ForestNode{node(0, 0, 0, alternative(all(), 0))}, Roots: []api.Root{root(0, all())}}
	var list []int
	for p := 2; len(list) < n; p++ {
		if prime && !big.NewInt(int64(p)).ProbablyPrime(0) {
			continue
		}
		m := node(len(list)+1, 0, 0, alternative(all(), 0))
		factor := 2
		if prime {
			factor = p
		}
		for k := 1; k < factor; k++ {
			m.Alternatives = append(m.Alternatives, alternative(is(len(list)), k))
		}
		list = append(list, factor)
		f.Nodes = append(f.Nodes, m)
		f.Nodes[0].Alternatives[0].Kids = append(f.Nodes[0].Alternatives[0].Kids, kid(len(list), 0, 0))
	}
	return f, list
}

// L2, R9: with 14 conditions, each configuration can have another number of trees.
func TestFourteenConditions(t *testing.T) {
	const n = 14
	f, primes := factors(n, true)
	list, e := count.Classes(f, all())
	if e != api.OK || len(list) != 1<<n {
		t.Fatalf("%d classes, error %d", len(list), e)
	}
	for i, x := range list {
		if i > 0 && natural.Compare(list[i-1].N, x.N) >= 0 {
			t.Fatalf("classes %d and %d are not in their order", i-1, i)
		}
		// The prime factors of the number say which configuration this is.
		number := value(x.N)
		c := api.Config(0)
		for v, p := range primes {
			if new(big.Int).Mod(number, big.NewInt(int64(p))).Sign() == 0 {
				c |= 1 << v
			}
		}
		if !diagram.Same(x.If, setOf(n, []api.Config{c})) {
			t.Fatalf("%v trees in %v", number, x.If)
		}
		if i%1000 == 0 {
			if got, e := count.Trees(f, c); e != api.OK || !sameNat(got, x.N) {
				t.Errorf("configuration %d has %v trees, error %d, want %v", c, got, e, x.N)
			}
		}
	}
	// The set that has the most branches.
	where := all()
	for v := range n / 2 {
		where = and(where, not(sure(diagram.Xor(is(v), is(v+n/2)))))
	}
	g := sums(2)
	g.Roots[0].If = where
	list, e = count.Classes(g, all())
	if e != api.OK || len(list) != 2 || len(list[0].N) > 0 || !diagram.Same(list[0].If, not(where)) || !diagram.Same(list[1].If, where) {
		t.Errorf("%d classes, error %d", len(list), e)
	}
}

// L1, L2, R9: with more than 14 conditions, sets can be too large, or not.
func TestManyConditions(t *testing.T) {
	const n = api.MaxConditions
	f, _ := factors(n-1, false)
	list, e := count.Classes(f, is(n-1))
	if e != api.OK || len(list) != n {
		t.Fatalf("%d classes, error %d", len(list), e)
	}
	choose := big.NewInt(1) // how many sets of i of n - 1 conditions there are
	for i, x := range list {
		size := sure(diagram.Count(x.If, n))
		if !sameNat(x.N, limbs(power(i))) || value(size).Cmp(choose) != 0 {
			t.Errorf("class %d: %v trees in %v configurations", i, x.N, value(size))
		}
		choose.Mul(choose, big.NewInt(int64(n-1-i))).Div(choose, big.NewInt(int64(i+1)))
	}
	if k, e := count.Trees(f, 1<<63|0b1011<<20); e != api.OK || !sameNat(k, nat(8)) {
		t.Errorf("%v trees, error %d", k, e)
	}
	// There are several trees where one of 15 pairs of conditions is true.
	f = api.Forest{Nodes: []api.ForestNode{node(0, 0, 0, alternative(all(), 0))}, Roots: []api.Root{root(0, all())}}
	for i := range 15 {
		f.Nodes[0].Alternatives = append(f.Nodes[0].Alternatives, alternative(and(is(i), is(i+15)), i+1))
	}
	if list, e := count.Classes(f, all()); e != api.ErrLarge || len(list) > 0 {
		t.Errorf("%d classes, error %d", len(list), e)
	}
	pairs := all()
	for i := range 8 {
		pairs = and(pairs, not(is(15+i)))
	}
	if list, e := count.Classes(f, pairs); e != api.OK || len(list) != 8 {
		t.Errorf("%d classes, error %d", len(list), e)
	}
	if k, e := count.Trees(f, 1<<30-1); e != api.OK || !sameNat(k, nat(16)) {
		t.Errorf("%v trees, error %d", k, e)
	}
	// There are more different numbers than could be listed.
	f, _ = factors(n, true)
	if list, e := count.Classes(f, is(0)); e != api.ErrLarge || len(list) > 0 {
		t.Errorf("%d classes, error %d", len(list), e)
	}
	few := all()
	for v := 5; v < n; v++ {
		few = and(few, not(is(v)))
	}
	if list, e := count.Classes(f, few); e != api.OK || len(list) != 32 {
		t.Errorf("%d classes, error %d", len(list), e)
	}
	// Whether kids lead in a circle depends on too large a set.
	r := api.Forest{Roots: []api.Root{root(0, all())}}
	for i := range 16 {
		m := node(0, 0, 0, alternative(is(i), 0, kid((i+1)%16, 0, 0)), alternative(is(i+15), 1, kid((i+1)%16, 0, 0)))
		r.Nodes = append(r.Nodes, copyNumber(i, m))
	}
	r.Nodes[15].Alternatives = []api.Alternative{alternative(all(), 0, kid(0, 0, 0))}
	for i, e := range errorsOf(t, r, 0, nil, nil, nil, all()) {
		if e != api.ErrLarge {
			t.Errorf("function %d: error %d", i, e)
		}
	}
	if list := errorsOf(t, r, 0, nil, api.Nat{0}, nil, api.Diagram{Root: 2}); list != [5]api.Errno{api.ErrLarge, api.ErrDiagram, api.ErrLarge, api.ErrArg, api.ErrLarge} {
		t.Errorf("errors %v", list)
	}
}

// L1 to L5: a long ring of nodes that is open at different places in different configurations.
func TestLongRing(t *testing.T) {
	const n = 100000
	f := line(n)
	for i := range f.Nodes {
		f.Nodes[i].Alternatives = []api.Alternative{alternative(all(), 0, kid((i+1)%n, 3, 3)), alternative(all(), 1)}
	}
	f.Nodes[n/2].Alternatives[0].If = set("A")
	f.Nodes[n-1].Alternatives[0].If = set("!A")
	for _, c := range []api.Config{0, 1} {
		want := []int{n/2 + 1, n}[c]
		k, e := count.Trees(f, c)
		expectNumber(t, "Trees", k, e, want)
		x, e := count.Unrank(f, c, nat(7))
		if e != api.OK || len(x) != want-7 {
			t.Errorf("a tree of %d nodes, error %d", len(x), e)
		}
		k, e = count.Rank(f, c, x)
		expectNumber(t, "Rank", k, e, 7)
	}
	list, e := count.Classes(f, all())
	if e != api.OK || len(list) != 2 || !sameNat(list[0].N, nat(n/2+1)) || !diagram.Same(list[0].If, set("!A")) || !sameNat(list[1].N, nat(n)) || !diagram.Same(list[1].If, set("A")) {
		t.Errorf("%v, error %d", list, e)
	}
	f.Nodes[n-1].Alternatives[0].If = set("!A || B")
	if _, e := count.Classes(f, all()); e != api.ErrForest {
		t.Errorf("a circle: error %d", e)
	}
}

// L1 to L5: many copies of nodes, each a kid of all the nodes of the next gap, so that the parts of a tree can be those of many nodes.
func TestManyCopies(t *testing.T) {
	const width, length = 60, 40
	f := api.Forest{}
	for at := range length {
		for c := range width {
			m := copyNumber(c, node(0, at, length))
			if at == length-1 {
				m.Alternatives = []api.Alternative{alternative(all(), 0, leaf(0, at, length))}
			} else {
				for k := range width {
					m.Alternatives = append(m.Alternatives, alternative(all(), 0, leaf(0, at, at+1), kid((at+1)*width+k, at+1, length)))
				}
			}
			f.Nodes = append(f.Nodes, m)
			if at == 0 {
				f.Roots = append(f.Roots, root(c, all()))
			}
		}
	}
	want := new(big.Int).Exp(big.NewInt(width), big.NewInt(length), nil)
	expectBig(t, "copies", f, 0, want)
	last, e := count.Unrank(f, 0, limbs(want.Sub(want, big.NewInt(1))))
	if e != api.OK || len(last) != 2*length {
		t.Fatalf("a tree of %d nodes, error %d", len(last), e)
	}
	if k, e := count.Rank(f, 0, last); e != api.OK || len(k) > 0 {
		t.Errorf("the number %v, error %d", k, e)
	}
	last[len(last)-1].Token = 1
	if k, e := count.Rank(f, 0, last); e != api.ErrTree {
		t.Errorf("the number %v, error %d", k, e)
	}
}
