package sets_test

import (
	"math/rand/v2"
	"strconv"
	"testing"

	"koine/api"
	"koine/diagram"
	"koine/sets"
)

// sure returns the result of a call that cannot fail.
func sure[T any](result T, e api.Errno) T {
	if e != api.OK {
		panic("error " + strconv.Itoa(int(e)))
	}
	return result
}

// A truth table of three conditions has a bit for each configuration.
type table uint8

// diagram returns the set of a truth table.
func (t table) diagram() api.Diagram {
	d := diagram.Constant(false)
	for c := range 8 {
		if t>>c&1 == 0 {
			continue
		}
		one := diagram.Constant(true)
		for v := range 3 {
			x := sure(diagram.Var(v))
			if c>>v&1 == 0 {
				x = sure(diagram.Not(x))
			}
			one = sure(diagram.And(one, x))
		}
		d = sure(diagram.Or(d, one))
	}
	return d
}

// Equal sets have equal numbers, and different ones different numbers; each number is that of its diagram.
func TestNumbers(t *testing.T) {
	n := sets.New()
	tables := map[int]table{}
	for i := range 256 {
		number := n.Number(table(i).diagram())
		if other, ok := tables[number]; ok {
			t.Errorf("%08b and %08b have the number %d", i, other, number)
		}
		tables[number] = table(i)
	}
	for number, x := range tables {
		if d := x.diagram(); n.Number(d) != number || !diagram.Same(n.Diagram(number), d) {
			t.Errorf("%08b: the number %d has %v", x, number, n.Diagram(number))
		}
	}
	if tables[sets.Nothing] != 0 || tables[sets.Everything] != 255 {
		t.Error("the constant sets have other numbers")
	}
}

// A diagram is in new memory.
func TestMemory(t *testing.T) {
	n := sets.New()
	d := sure(diagram.Var(3))
	number := n.Number(d)
	a, b := n.Diagram(number), n.Diagram(number)
	a.Nodes[0].Var = 5
	if d.Nodes[0].Var != 3 || b.Nodes[0].Var != 3 || n.Number(sure(diagram.Var(3))) != number {
		t.Error("a diagram shares memory")
	}
}

// All operations, of all sets of three conditions, in a random order and more than once.
func TestOperations(t *testing.T) {
	g := rand.New(rand.NewPCG(1, 1))
	n := sets.New()
	same := func(name string, x, y table, got int, want table) {
		t.Helper()
		if d := n.Diagram(got); !diagram.Same(d, want.diagram()) || n.Number(d) != got {
			t.Fatalf("%s of %08b and %08b: %v", name, x, y, d)
		}
	}
	for range 20000 {
		x, y := table(g.IntN(256)), table(g.IntN(256))
		if g.IntN(4) == 0 {
			x &= y
		}
		a, b := n.Number(x.diagram()), n.Number(y.diagram())
		same("And", x, y, n.And(a, b), x&y)
		same("Or", x, y, n.Or(a, b), x|y)
		same("Cover", x, y, n.Cover(a, b), x|y)
		same("Without", x, y, n.Without(a, b), x&^y)
		inside, outside := n.Split(a, b)
		same("Split", x, y, inside, x&y)
		same("Split", x, y, outside, x&^y)
		if n.Subset(a, b) != (x&^y == 0) || n.Disjoint(a, b) != (x&y == 0) {
			t.Fatalf("%08b and %08b: Subset is %v, Disjoint %v", x, y, n.Subset(a, b), n.Disjoint(a, b))
		}
	}
	if n.E != api.OK {
		t.Errorf("error %d", n.E)
	}
}

// A choice, by a condition before those of its sets, of all sets of the two conditions behind it.
func TestChoice(t *testing.T) {
	n := sets.New()
	for x := range table(16) {
		for y := range table(16) {
			// The tables of the sets do not depend on the first condition.
			var low, high, want table
			for c := range 8 {
				low |= x >> (c / 2) & 1 << c
				high |= y >> (c / 2) & 1 << c
				want |= []table{low, high}[c%2] & (1 << c)
			}
			if got := n.Choice(0, n.Number(low.diagram()), n.Number(high.diagram())); got != n.Number(want.diagram()) {
				t.Errorf("%08b or %08b: %v", low, high, n.Diagram(got))
			}
		}
	}
	if n.E != api.OK {
		t.Errorf("error %d", n.E)
	}
	// As many branches as there can be, and one more.
	last := sure(diagram.Var(61))
	for _, want := range []api.Errno{api.OK, api.ErrLarge} {
		n = sets.New()
		number := n.Number(sure(diagram.Or(pairs(1, 12), last)))
		got := n.Choice(0, sets.Nothing, number)
		if n.E != want || want == api.OK && len(n.Diagram(got).Nodes) != api.MaxBranches || want != api.OK && got != sets.Nothing {
			t.Errorf("error %d, %d branches", n.E, len(n.Diagram(got).Nodes))
		}
		last = sure(diagram.And(last, sure(diagram.Var(62))))
	}
}

// pairs returns the configurations with both conditions of one of some pairs.
func pairs(from, to int) api.Diagram {
	d := diagram.Constant(false)
	for i := from; i < to; i++ {
		d = sure(diagram.Or(d, sure(diagram.And(sure(diagram.Var(i)), sure(diagram.Var(i+30))))))
	}
	return d
}

// A result that is too large is an error, which is kept; Cover, Subset and Disjoint never have one.
func TestErrors(t *testing.T) {
	n := sets.New()
	a, b := n.Number(pairs(0, 8)), n.Number(pairs(8, 16))
	if n.Cover(a, b) != sets.Everything || n.Subset(a, b) || n.Disjoint(a, b) || n.E != api.OK {
		t.Errorf("error %d", n.E)
	}
	if n.Or(a, b) != sets.Nothing || n.E != api.ErrLarge {
		t.Errorf("Or: %v, error %d", n.Diagram(n.Or(a, b)), n.E)
	}
	if n.And(a, a) != a || n.Or(a, a) != a || n.E != api.ErrLarge {
		t.Error("the error is not kept")
	}
	for _, operate := range []func(n *sets.Numbers, a, b int) int{(*sets.Numbers).And, (*sets.Numbers).Without} {
		n = sets.New()
		a, b = n.Number(sure(diagram.Not(pairs(0, 8)))), n.Number(sure(diagram.Not(pairs(8, 16))))
		if operate(n, a, n.Number(pairs(8, 16))) != sets.Nothing || operate(n, a, b) != sets.Nothing || n.E != api.ErrLarge {
			t.Errorf("error %d", n.E)
		}
	}
}

// A pool has sets with their numbers.
type pool struct {
	*rand.Rand
	*sets.Numbers
	diagrams []api.Diagram
	numbers  []int
}

// newPool returns a pool with the conditions less than n.
func newPool(seed uint64, n int) *pool {
	p := &pool{Rand: rand.New(rand.NewPCG(2, seed)), Numbers: sets.New()}
	for v := range n {
		d := sure(diagram.Var(v))
		p.put(d, p.Number(d))
	}
	return p
}

func (p *pool) put(d api.Diagram, number int) {
	p.diagrams = append(p.diagrams, d)
	p.numbers = append(p.numbers, number)
}

// step applies an operation to two sets of the pool in both ways, and returns whether the result was too large.
func (p *pool) step(t *testing.T, steps int) bool {
	t.Helper()
	i, j := p.IntN(len(p.numbers)), p.IntN(len(p.numbers))
	x, y, a, b := p.diagrams[i], p.diagrams[j], p.numbers[i], p.numbers[j]
	if p.Subset(a, b) != diagram.Within(x, y) || p.Disjoint(a, b) != diagram.Disjoint(x, y) {
		t.Fatalf("step %d: %v and %v: Subset is %v, Disjoint %v", steps, x, y, p.Subset(a, b), p.Disjoint(a, b))
	}
	var want api.Diagram
	var e api.Errno
	got := sets.Nothing
	switch p.IntN(3) {
	case 0:
		want, e = diagram.And(x, y)
		got = p.And(a, b)
	case 1:
		want, e = diagram.Or(x, y)
		got = p.Or(a, b)
		if e == api.OK && p.Cover(a, b) != got || e != api.OK && p.Cover(a, b) != sets.Everything {
			t.Fatalf("step %d: Cover of %v and %v", steps, x, y)
		}
	case 2:
		want, e = diagram.Choose(y, diagram.Constant(false), x)
		got = p.Without(a, b)
	}
	if p.E != e || e != api.OK && got != sets.Nothing {
		t.Fatalf("step %d: error %d, want %d", steps, p.E, e)
	}
	if e != api.OK {
		p.E = api.OK
		return true
	}
	if d := p.Diagram(got); !diagram.Same(d, want) || p.Number(want) != got {
		t.Fatalf("step %d: %v, want %v", steps, d, want)
	}
	if len(p.numbers) < 200 {
		p.put(want, got)
	} else {
		k := p.IntN(200)
		p.diagrams[k], p.numbers[k] = want, got
	}
	return false
}

// The operations of package diagram have the same results, and the same errors, also for sets with many branches.
func TestDiagrams(t *testing.T) {
	large := 0
	for seed, n := range []int{4, 9, 14, 15, 24, 64} {
		p := newPool(uint64(seed), n)
		for i := range 3000 {
			if p.step(t, i) {
				large++
			}
			// Without new sets from time to time, all of them would soon be constant or too large.
			if i%20 == 0 {
				k := p.IntN(len(p.numbers))
				p.diagrams[k] = sure(diagram.Var(p.IntN(n)))
				p.numbers[k] = p.Number(p.diagrams[k])
			}
		}
	}
	if large < 10 {
		t.Errorf("only %d results are too large", large)
	}
}

// equal returns the configurations in which each of k conditions from one on has the value of the condition k later. Its diagram has 3 * 2^k - 3 branches.
func equal(from, k int) api.Diagram {
	d := diagram.Constant(true)
	for v := from + k - 1; v >= from; v-- {
		differ := sure(diagram.Xor(sure(diagram.Var(v)), sure(diagram.Var(v+k))))
		d = sure(diagram.And(d, sure(diagram.Not(differ))))
	}
	return d
}

// random returns a set that depends on the conditions from v to n-1 in a random way.
func random(g *rand.Rand, v, n int) api.Diagram {
	if v == n {
		return diagram.Constant(g.IntN(2) > 0)
	}
	return sure(diagram.Choose(sure(diagram.Var(v)), random(g, v+1, n), random(g, v+1, n)))
}

// Results of exactly MaxBranches branches are not too large, and those of one more are.
func TestLargest(t *testing.T) {
	g := rand.New(rand.NewPCG(3, 3))
	wide := sure(diagram.And(sure(diagram.And(equal(0, 10), equal(20, 8))), equal(36, 6)))
	for _, more := range []int{0, 1} {
		rest := random(g, 48, 56)
		for len(wide.Nodes)+len(rest.Nodes) != api.MaxBranches+more {
			rest = random(g, 48, 56)
		}
		n := sets.New()
		a, b := n.Number(wide), n.Number(rest)
		got := n.And(a, b)
		if more > 0 {
			if got != sets.Nothing || n.E != api.ErrLarge {
				t.Errorf("one branch more than MaxBranches: error %d", n.E)
			}
			continue
		}
		d := n.Diagram(got)
		if n.E != api.OK || len(d.Nodes) != api.MaxBranches || !diagram.Same(d, sure(diagram.And(wide, rest))) {
			t.Errorf("MaxBranches branches: error %d, %d branches", n.E, len(d.Nodes))
		}
		// The branches of the result are known now, which must make no difference.
		if n.And(b, a) != got || n.Without(got, b) != sets.Nothing || n.Or(got, a) != a || n.E != api.OK {
			t.Errorf("error %d", n.E)
		}
	}
}
