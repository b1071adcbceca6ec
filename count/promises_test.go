package count_test

import (
	"math/big"
	"slices"
	"testing"

	"koine/api"
	"koine/chart"
	"koine/count"
	"koine/diagram"
	"koine/forest"
	"koine/scanner"
	"koine/tree"
)

// mostTrees is the number of trees up to which all of them are made.
const mostTrees = 40

// few reports whether a sound forest has not more than mostTrees trees for each configuration of n conditions.
func few(f api.Forest, n int) bool {
	for c := range api.Config(1) << n {
		if sum, _ := newTally(f, c).all(); sum.Cmp(big.NewInt(mostTrees)) > 0 {
			return false
		}
	}
	return true
}

// repeated returns how many trees of a list are in it before.
func repeated(list []api.Tree) int {
	n := 0
	for i, x := range list {
		if slices.ContainsFunc(list[:i], func(y api.Tree) bool { return sameTree(x, y) }) {
			n++
		}
	}
	return n
}

// P12.1, P12.2, P12.3: random forests, in which nodes have copies and there can be circles if conditions play no part, and nodes without trees.
func TestRandomForests(t *testing.T) {
	g := seeded(1)
	sound, several, again, circles := 0, 0, 0, 0
	for i := range 5000 {
		f := pruned(g.forest(2))
		if i%5 == 0 {
			f = pruned(g.knots(2))
		}
		if !isSound(f, 2) || len(f.Nodes) == 0 || !few(f, 2) {
			continue
		}
		sound++
		if hasCycle(everywhere(f), 0) {
			circles++
		}
		expectCounted(t, f, 2)
		expectClasses(t, f, 3, g.set(3))
		for c := range api.Config(4) {
			list := treesOf(f, c)
			several += len(list) / 4
			again += repeated(list)
			if len(list) > 0 {
				x := g.changed(pick(g, list...))
				expectRank(t, f, c, x, slices.IndexFunc(list, func(y api.Tree) bool { return sameTree(x, y) }))
			}
		}
	}
	if sound < 1500 || several < 1000 || again < 200 || circles < 300 {
		t.Errorf("only %d sound forests, %d with several trees, %d trees that occur again, %d circles", sound, several, again, circles)
	}
}

// everywhere returns a forest with its alternatives in all configurations.
func everywhere(f api.Forest) api.Forest {
	f = copyOf(f)
	for _, n := range f.Nodes {
		for i := range n.Alternatives {
			n.Alternatives[i].If = all()
		}
	}
	return f
}

// changed returns a list of nodes that differs a little from that of a tree.
func (g generator) changed(x api.Tree) api.Tree {
	x = slices.Clone(x)
	i := g.IntN(len(x))
	switch g.IntN(6) {
	case 0:
		x[i].Production ^= 1
	case 1:
		x[i].Token ^= 1
	case 2:
		x[i].From++
	case 3:
		x[i].To++
	case 4:
		return slices.Delete(x, i, i+1)
	default:
		return slices.Insert(x, i, pick(g, x...))
	}
	return x
}

// An example is a random grammar with a scan of a source, whose raw forest has few trees in each configuration.
type example struct {
	n       int
	grammar api.Grammar
	scan    api.Scan
	forest  api.Forest
}

func (g generator) example() example {
	for {
		x := example{n: g.IntN(4)}
		x.grammar = g.grammar(x.n)
		if g.IntN(4) == 0 {
			x.n = 2 + g.IntN(2)
			x.grammar = g.chains(x.n)
		}
		x.scan = sure(scanner.Scan(x.grammar, g.source(x.n, 5)))
		x.forest = sure(forest.Build(x.grammar, x.scan))
		if few(x.forest, x.n) && (len(x.forest.Nodes) > 0 || g.IntN(20) == 0) {
			return x
		}
	}
}

// P12.2, P12.3, P12.6: the raw forests of random grammars and sources.
func TestRawForests(t *testing.T) {
	g := seeded(2)
	several, none := 0, 0
	for range 1000 {
		x := g.example()
		accepted := sure(chart.Accepted(x.grammar, x.scan))
		for _, c := range configsOf(x.scan.Good, x.n) {
			list, _ := forest.Trees(x.forest, c, mostTrees)
			expectList(t, x.forest, c, list)
			if (len(list) > 0) != diagram.Holds(accepted, c) {
				t.Fatalf("configuration %d of %v has %d trees, accepted are %v", c, x.scan, len(list), accepted)
			}
			for i, y := range list {
				expectRank(t, x.forest, c, y, i)
				if i > 0 && tree.Compare(x.grammar, list[i-1], y) >= 0 {
					t.Fatalf("trees %d and %d are not in their order", i-1, i)
				}
			}
			several += len(list) / 2
			if len(list) == 0 {
				none++
			}
			m, e := trees(t, forest.Select(x.forest, c), c)
			if e != api.OK || !sameNat(m, nat(len(list))) {
				t.Fatalf("the forest of configuration %d has %v trees, error %d, want %d", c, m, e, len(list))
			}
		}
		expectClasses(t, x.forest, x.n, x.scan.Good)
	}
	if several < 1000 || none < 300 {
		t.Errorf("only %d trees of several, %d configurations without trees", several, none)
	}
}

// manyTrees returns a forest of n nodes with many trees, and sets that depend on at most 5 conditions. Some nodes have no trees in some configurations.
func (g generator) manyTrees(n int) api.Forest {
	f := line(n)
	for i := range n - 1 {
		m := &f.Nodes[i]
		m.Alternatives = nil
		for p := range 1 + g.IntN(3) {
			a := alternative(g.some(5), p, kid(i+1, 3, 3))
			if g.IntN(5) == 0 {
				a.If = all()
			}
			for range g.IntN(3) {
				a.Kids = append(a.Kids, kid(i+1+g.IntN(min(n-i-1, 4)), 3, 3))
			}
			m.Alternatives = append(m.Alternatives, a)
		}
	}
	f.Nodes[n-1].Alternatives = []api.Alternative{alternative(g.some(5), 0), alternative(g.some(5), 1)}
	for i := range 2 {
		f.Roots = append(f.Roots, root(1+i, g.some(5)))
	}
	return f
}

// P12.1, P12.4: forests with numbers of trees of many limbs, of which some are too large.
func TestManyTrees(t *testing.T) {
	g := seeded(3)
	large, long, zero, distinct := 0, 0, 0, 0
	for range 300 {
		f := g.manyTrees(3 + g.IntN(22))
		bad := none()
		for c := range api.Config(1) << 5 {
			want, ok := newTally(f, c).all()
			n, e := count.Trees(f, c)
			if ok != (e == api.OK) || !ok && e != api.ErrLarge || ok && !sameNat(n, limbs(want)) {
				t.Fatalf("configuration %d of %v has %v trees, error %d, want %v", c, f, n, e, want)
			}
			switch {
			case !ok:
				large++
				bad = or(bad, setOf(5, []api.Config{c}))
				if _, e := count.Classes(f, setOf(5, []api.Config{c})); e != api.ErrLarge {
					t.Fatalf("Classes of %v for configuration %d: error %d", f, c, e)
				}
			case len(n) > 2:
				long++
			case len(n) == 0:
				zero++
			}
		}
		if _, e := count.Classes(f, all()); (e == api.ErrLarge) != !diagram.Same(bad, none()) {
			t.Fatalf("Classes of %v: error %d", f, e)
		}
		family := and(not(bad), or(g.set(5), g.set(6)))
		expectClasses(t, f, 6, family)
		list := sure(count.Classes(f, family))
		distinct += len(list)
		union := none()
		for _, x := range list {
			if diagram.Same(x.If, none()) || !diagram.Disjoint(union, x.If) {
				t.Fatalf("the class %v of %v", x, f)
			}
			union = or(union, x.If)
		}
		if !diagram.Same(union, family) {
			t.Fatalf("the classes of %v for %v have the union %v", f, family, union)
		}
	}
	if large < 100 || long < 1000 || zero < 1000 || distinct < 1000 {
		t.Errorf("only %d configurations that are too large, %d with many trees, %d with none, %d classes", large, long, zero, distinct)
	}
}

// P12.3: numbers of many limbs.
func TestLongNumbers(t *testing.T) {
	g := seeded(4)
	tested := 0
	for tested < 1000 {
		f := g.manyTrees(3 + g.IntN(20))
		c := api.Config(g.IntN(32))
		k, e := count.Trees(f, c)
		if e != api.OK || len(k) == 0 {
			continue
		}
		total := value(k)
		for _, n := range []*big.Int{new(big.Int), new(big.Int).Sub(total, big.NewInt(1)), new(big.Int).Rand(bigRand(g), total)} {
			x, e := count.Unrank(f, c, limbs(n))
			if e != api.OK {
				t.Fatalf("Unrank of %v of %v: error %d", n, total, e)
			}
			if got, e := count.Rank(f, c, x); e != api.OK || !isNumberOf(f, c, x, got) || value(got).Cmp(n) > 0 {
				t.Fatalf("the tree with number %v has the number %v, error %d", n, got, e)
			}
			tested++
		}
		for i := range 3 {
			n := new(big.Int).Add(total, big.NewInt(int64(i*i)))
			if x, e := count.Unrank(f, c, limbs(n)); e != api.ErrRange || len(x) > 0 {
				t.Fatalf("Unrank of %v of %v: %v, error %d", n, total, x, e)
			}
		}
	}
}

// isNumberOf reports whether a tree is that with a number.
func isNumberOf(f api.Forest, c api.Config, x api.Tree, n api.Nat) bool {
	y, e := count.Unrank(f, c, n)
	return e == api.OK && sameTree(x, y)
}

// P12.5: draws of one and of several digits, with other bits, and behind others that are skipped.
func TestUniformChoice(t *testing.T) {
	g := seeded(5)
	skipped := 0
	for range 1500 {
		f := g.manyTrees(3 + g.IntN(15))
		c := api.Config(g.IntN(32))
		k, e := count.Trees(f, c)
		if e != api.OK || len(k) == 0 {
			continue
		}
		total := value(k)
		last := new(big.Int).Sub(total, big.NewInt(1))
		bits := last.BitLen()
		n := new(big.Int).Rand(bigRand(g), total)
		want := sure(count.Unrank(f, c, limbs(n)))
		var digits []uint32
		for range g.IntN(3) {
			// A draw that is too large, if there is one.
			if high := new(big.Int).Sub(new(big.Int).Lsh(big.NewInt(1), uint(bits)), total); high.Sign() > 0 {
				digits = append(digits, g.digits(high.Rand(bigRand(g), high).Add(high, total), bits)...)
				skipped++
			}
		}
		for cut := range len(digits) + (bits+31)/32 {
			x, e := count.Sample(f, c, append(slices.Clone(digits), g.digits(n, bits)...)[:cut])
			if e != api.ErrRange || len(x) > 0 {
				t.Fatalf("%d of %d digits: %v, error %d", cut, len(digits), x, e)
			}
		}
		for _, filled := range [][]uint32{g.digits(n, bits), plain(n, bits), append(plain(n, bits), 7, 8)} {
			if x, e := count.Sample(f, c, append(slices.Clone(digits), filled...)); e != api.OK || !sameTree(x, want) {
				t.Fatalf("Sample with %v behind %v for %v of %v: %v, error %d", filled, digits, n, total, x, e)
			}
		}
	}
	if skipped < 500 {
		t.Errorf("only %d draws are skipped", skipped)
	}
}

// plain returns the digits of a number for a draw of some bits.
func plain(n *big.Int, bits int) []uint32 {
	list := limbs(n)
	for len(list) < (bits+31)/32 {
		list = append(list, 0)
	}
	return list
}

// digits returns the digits of a number for a draw of some bits, with other bits above these.
func (g generator) digits(n *big.Int, bits int) []uint32 {
	list := plain(n, bits)
	if bits%32 > 0 {
		list[len(list)-1] |= g.Uint32() << (bits % 32)
	}
	return list
}

// P12.5: each tree is chosen by equally many of the first draws.
func TestEqualShares(t *testing.T) {
	for operands := 1; operands <= 6; operands++ {
		f := sums(operands)
		list, _ := forest.Trees(f, 0, mostTrees+10)
		shares := make([]int, len(list))
		for digit := range uint32(128) {
			x, e := count.Sample(f, 0, []uint32{digit})
			i := slices.IndexFunc(list, func(y api.Tree) bool { return sameTree(x, y) })
			if e == api.OK && i >= 0 {
				shares[i]++
			} else if e != api.ErrRange || len(list) == 1 {
				t.Errorf("%d operands, digit %d: %v, error %d", operands, digit, x, e)
			}
		}
		for _, n := range shares {
			if n == 0 || n != shares[0] {
				t.Errorf("%d operands: the trees have the shares %v", operands, shares)
				break
			}
		}
	}
}
