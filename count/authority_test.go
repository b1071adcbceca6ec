package count_test

import (
	"math/big"
	"slices"
	"testing"

	"koine/api"
	"koine/diagram"
	"koine/forest"
)

// The functions of this file make the trees of a sound forest for a configuration one by one, as the chapter about forests says.

func treesOfNode(f api.Forest, c api.Config, i int) []api.Tree {
	n := f.Nodes[i]
	var list []api.Tree
	for _, a := range n.Alternatives {
		if !diagram.Holds(a.If, c) {
			continue
		}
		made := []api.Tree{branch(a.Production, n.From, n.To)}
		for _, k := range a.Kids {
			next := []api.Tree{word(k.Token, k.From, k.To)}
			if k.Node >= 0 {
				next = treesOfNode(f, c, k.Node)
			}
			var longer []api.Tree
			for _, x := range made {
				for _, y := range next {
					longer = append(longer, slices.Concat(x, y))
				}
			}
			made = longer
		}
		list = append(list, made...)
	}
	return list
}

func treesOf(f api.Forest, c api.Config) []api.Tree {
	var list []api.Tree
	for _, r := range f.Roots {
		if diagram.Holds(r.If, c) {
			list = append(list, treesOfNode(f, c, r.Node)...)
		}
	}
	return list
}

// A tally counts the trees of a sound forest for a configuration.
type tally struct {
	forest  api.Forest
	config  api.Config
	counts  map[int]*big.Int
	reached map[int]bool
}

func newTally(f api.Forest, c api.Config) tally {
	y := tally{f, c, map[int]*big.Int{}, map[int]bool{}}
	for _, r := range f.Roots {
		if diagram.Holds(r.If, c) {
			y.reach(r.Node)
		}
	}
	return y
}

func (y tally) reach(i int) {
	if y.reached[i] {
		return
	}
	y.reached[i] = true
	for _, a := range y.forest.Nodes[i].Alternatives {
		for _, k := range a.Kids {
			if k.Node >= 0 && diagram.Holds(a.If, y.config) {
				y.reach(k.Node)
			}
		}
	}
}

// count returns how many trees a node has.
func (y tally) count(i int) *big.Int {
	if n, ok := y.counts[i]; ok {
		return n
	}
	sum := new(big.Int)
	for _, a := range y.forest.Nodes[i].Alternatives {
		if diagram.Holds(a.If, y.config) {
			product := big.NewInt(1)
			for _, k := range a.Kids {
				if k.Node >= 0 {
					product.Mul(product, y.count(k.Node))
				}
			}
			sum.Add(sum, product)
		}
	}
	y.counts[i] = sum
	return sum
}

// all returns how many trees there are, and whether the forest is not too large.
func (y tally) all() (*big.Int, bool) {
	sum, ok := new(big.Int), true
	for _, r := range y.forest.Roots {
		if diagram.Holds(r.If, y.config) {
			sum.Add(sum, y.count(r.Node))
		}
	}
	for i := range y.reached {
		ok = ok && len(limbs(y.count(i))) <= api.MaxLimbs
	}
	return sum, ok && len(limbs(sum)) <= api.MaxLimbs
}

// limbs returns the limbs of a number.
func limbs(n *big.Int) api.Nat {
	n = new(big.Int).Set(n)
	var list api.Nat
	for n.Sign() > 0 {
		list = append(list, uint32(n.Uint64()))
		n.Rsh(n, 32)
	}
	return list
}

// expectCounted fails unless the functions return for a sound forest what the chapter says. Its sets depend on at most n conditions.
func expectCounted(t *testing.T, f api.Forest, n int) {
	t.Helper()
	if !isSound(f, n) {
		t.Fatalf("%v is not sound", f)
	}
	lists := make([][]api.Tree, 1<<n)
	for c := range lists {
		lists[c] = treesOf(f, api.Config(c))
	}
	for c, list := range lists {
		expectList(t, f, api.Config(c), list)
		for _, x := range slices.Concat(lists...) {
			expectRank(t, f, api.Config(c), x, slices.IndexFunc(list, func(y api.Tree) bool { return sameTree(x, y) }))
		}
	}
	expectClasses(t, f, n, all())
	expectClasses(t, f, n, none())
}

// expectList fails unless a forest has a list of trees for a configuration.
func expectList(t *testing.T, f api.Forest, c api.Config, list []api.Tree) {
	t.Helper()
	if n, e := trees(t, f, c); e != api.OK || !sameNat(n, nat(len(list))) {
		t.Fatalf("%v has for configuration %d %v trees, error %d, want %d", f, c, n, e, len(list))
	}
	if got, complete := forest.Trees(f, c, len(list)); !complete || len(got) != len(list) {
		t.Fatalf("%v has for configuration %d %d trees, want %d", f, c, len(got), len(list))
	}
	for i, x := range list {
		if got, e := unrank(t, f, c, nat(i)); e != api.OK || !sameTree(got, x) {
			t.Fatalf("%v has for configuration %d the tree %v with number %d, error %d, want %v", f, c, got, i, e, x)
		}
	}
	for _, n := range []api.Nat{nat(len(list)), nat(len(list) + 1), nat(1 << 32), nat(1 << 62)} {
		if got, e := unrank(t, f, c, n); e != api.ErrRange {
			t.Fatalf("%v has for configuration %d the tree %v with number %v, error %d", f, c, got, n, e)
		}
	}
}

// expectRank fails unless a tree has a number, or none if this is negative.
func expectRank(t *testing.T, f api.Forest, c api.Config, x api.Tree, want int) {
	t.Helper()
	n, e := rank(t, f, c, x)
	if want < 0 && e != api.ErrTree || want >= 0 && (e != api.OK || !sameNat(n, nat(want))) {
		t.Fatalf("the tree %v has for configuration %d of %v the number %v, error %d, want %d", x, c, f, n, e, want)
	}
}

// expectClasses fails unless a forest has its numbers of trees for a family, whose set depends on at most n conditions, too.
func expectClasses(t *testing.T, f api.Forest, n int, family api.Diagram) {
	t.Helper()
	list, e := classes(t, f, family)
	if e != api.OK {
		t.Fatalf("Classes of %v: error %d", f, e)
	}
	configs := map[string][]api.Config{}
	numbers := map[string]*big.Int{}
	for _, c := range configsOf(family, n) {
		number, _ := newTally(f, c).all()
		numbers[number.String()] = number
		configs[number.String()] = append(configs[number.String()], c)
	}
	var want []api.Counted
	for key, l := range configs {
		want = append(want, api.Counted{N: limbs(numbers[key]), If: setOf(n, l)})
	}
	slices.SortFunc(want, func(a, b api.Counted) int {
		return numbers[text(a.N)].Cmp(numbers[text(b.N)])
	})
	if !slices.EqualFunc(list, want, func(a, b api.Counted) bool { return sameNat(a.N, b.N) && diagram.Same(a.If, b.If) }) {
		t.Fatalf("Classes of %v for %v: %v, want %v", f, family, list, want)
	}
}

// text returns the digits of a number.
func text(n api.Nat) string { return value(n).String() }

// value returns the number with some limbs.
func value(n api.Nat) *big.Int {
	x := new(big.Int)
	for _, limb := range slices.Backward(n) {
		x.Lsh(x, 32).Or(x, big.NewInt(int64(limb)))
	}
	return x
}
