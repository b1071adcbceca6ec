package diagram_test

import (
	"math/big"
	"math/rand/v2"
	"slices"
	"testing"

	"koine/api"
	"koine/diagram"
	"koine/natural"
)

// P2.1, P2.3, B6: a configuration is in a set exactly if the table says so, whatever the other conditions are.
func TestHolds(t *testing.T) {
	r := rand.New(rand.NewPCG(2, 8))
	for range 300 {
		n := r.IntN(9)
		vars := randomVars(r, n)
		table := randomPart(r, n)
		d := diagramOf(vars, table)
		for j, want := range table {
			for _, rest := range []bool{false, true} {
				if diagram.Holds(d, config(vars, j, rest)) != want {
					t.Fatalf("Holds(%v, %x) is not %v", d, config(vars, j, rest), want)
				}
			}
		}
	}
}

// P2.1, P2.5, B6: inclusion and disjointness of all sets of three conditions.
func TestInclusionSmall(t *testing.T) {
	var sets []api.Diagram
	for i := range uint64(256) {
		sets = append(sets, diagramOf([]int{1, 2, 62}, numbered(3, i)))
	}
	for i, a := range sets {
		for j, b := range sets {
			if got := diagram.Within(a, b); got != (i&^j == 0) {
				t.Fatalf("Within of sets %d and %d: %v", i, j, got)
			}
			if got := diagram.Disjoint(a, b); got != (i&j == 0) {
				t.Fatalf("Disjoint of sets %d and %d: %v", i, j, got)
			}
		}
	}
}

// P2.5: inclusion and disjointness by the intersection.
func TestInclusionByIntersection(t *testing.T) {
	r := rand.New(rand.NewPCG(2, 9))
	m := must(t)
	for range 1000 {
		a, b := random(r), random(r)
		both, either := m(diagram.And(a, b)), m(diagram.Or(a, b))
		for _, x := range [][2]api.Diagram{{a, b}, {b, a}, {both, a}, {a, both}, {b, either}, {either, b}, {m(diagram.Not(either)), a}, {a, a}} {
			and := m(diagram.And(x[0], x[1]))
			if diagram.Within(x[0], x[1]) != same(and, x[0]) || diagram.Disjoint(x[0], x[1]) != same(and, diagram.Constant(false)) {
				t.Fatalf("Within(%v, %v) = %v, Disjoint = %v, And = %v", x[0], x[1], diagram.Within(x[0], x[1]), diagram.Disjoint(x[0], x[1]), and)
			}
		}
	}
}

// P2.1, B6: the intersection may be too large for a diagram.
func TestInclusionLarge(t *testing.T) {
	m := must(t)
	a, b := straight(t), crossed(t)
	if diagram.Within(a, b) || diagram.Within(b, a) || diagram.Disjoint(a, b) {
		t.Error("two large sets that cross")
	}
	with, without := m(diagram.And(a, m(diagram.Var(60)))), m(diagram.And(b, m(diagram.Not(m(diagram.Var(60))))))
	if !diagram.Disjoint(with, without) || diagram.Within(with, without) {
		t.Error("two large sets that are disjoint")
	}
	if !diagram.Within(with, a) || !diagram.Within(without, b) || diagram.Within(a, with) || !diagram.Within(a, a) || diagram.Disjoint(a, a) {
		t.Error("a large set and a part of it")
	}
}

// P2.1, R3, R8, B6 to B8: nothing holds of a diagram that is not valid.
func TestQueriesOfBroken(t *testing.T) {
	none, all := diagram.Constant(false), diagram.Constant(true)
	for i, d := range append(broken(), large(t)) {
		for _, c := range []api.Config{0, 1, 1 << 63, ^api.Config(0)} {
			if diagram.Holds(d, c) {
				t.Errorf("broken diagram %d holds", i)
			}
		}
		for _, other := range []api.Diagram{none, all, d} {
			if diagram.Within(d, other) || diagram.Within(other, d) || diagram.Disjoint(d, other) || diagram.Disjoint(other, d) {
				t.Errorf("broken diagram %d is within or disjoint", i)
			}
		}
		if s := diagram.Support(d); len(s) != 0 {
			t.Errorf("broken diagram %d has the support %v", i, s)
		}
		if c, ok := diagram.Least(d); c != 0 || ok {
			t.Errorf("broken diagram %d has the least configuration %d, %v", i, c, ok)
		}
	}
}

// P2.1, P2.8, B7: a condition is in the support exactly if the restrictions by it differ.
func TestSupport(t *testing.T) {
	r := rand.New(rand.NewPCG(2, 10))
	m := must(t)
	sets := []api.Diagram{diagram.Constant(false), diagram.Constant(true), full(t), straight(t)}
	for range 200 {
		sets = append(sets, random(r))
	}
	for v := range 64 {
		sets = append(sets, m(diagram.Var(v)))
	}
	for _, a := range sets {
		support := diagram.Support(a)
		if !slices.IsSorted(support) || len(slices.Compact(slices.Clone(support))) != len(support) {
			t.Fatalf("Support = %v", support)
		}
		for v := range 64 {
			differ := !same(m(diagram.Restrict(a, v, false)), m(diagram.Restrict(a, v, true)))
			if slices.Contains(support, v) != differ {
				t.Fatalf("Support(%v) = %v, wrong about %d", a, support, v)
			}
		}
	}
}

// below returns the configurations that are less than c.
func below(t *testing.T, c api.Config) api.Diagram {
	m := must(t)
	d := diagram.Constant(false)
	for v := range 64 {
		x := m(diagram.Var(v))
		if c>>v&1 == 1 {
			d = m(diagram.Or(m(diagram.Not(x)), d))
		} else {
			d = m(diagram.And(m(diagram.Not(x)), d))
		}
	}
	return d
}

// P2.1, P2.7, B8: the least configuration is in the set, and no lesser one is.
func TestLeast(t *testing.T) {
	r := rand.New(rand.NewPCG(2, 11))
	m := must(t)
	sets := []api.Diagram{diagram.Constant(true), full(t), straight(t)}
	for v := range 64 {
		sets = append(sets, m(diagram.Var(v)), m(diagram.Not(m(diagram.Var(v)))))
	}
	for range 300 {
		n := r.IntN(7)
		vars := randomVars(r, n)
		table := randomTable(r, n, 1+r.IntN(3))
		d := diagramOf(vars, table)
		want := slices.Index(table, true)
		c, ok := diagram.Least(d)
		if ok != (want >= 0) || ok && c != config(vars, want, false) || !ok && c != 0 {
			t.Fatalf("Least(%v) = %x, %v", d, c, ok)
		}
		if ok {
			sets = append(sets, d)
		}
	}
	for _, a := range sets {
		c, ok := diagram.Least(a)
		if !ok || !diagram.Holds(a, c) || !diagram.Disjoint(a, below(t, c)) {
			t.Fatalf("Least(%v) = %x, %v", a, c, ok)
		}
	}
	if c, ok := diagram.Least(diagram.Constant(false)); c != 0 || ok {
		t.Errorf("Least of the empty set = %x, %v", c, ok)
	}
}

// checkCount fails unless Count returns this number or this error.
func checkCount(t *testing.T, d api.Diagram, n int, want string, error api.Errno) {
	t.Helper()
	got, e := diagram.Count(d, n)
	if e != error || e == api.OK && natural.Text(got) != want || e != api.OK && len(got) != 0 || !natural.Valid(got) {
		t.Fatalf("Count(%v, %d) = %v, %v, want %s, %v", d, n, got, e, want, error)
	}
}

// P2.1, B9: the counts of the tables, for every number of conditions.
func TestCount(t *testing.T) {
	r := rand.New(rand.NewPCG(2, 12))
	for range 300 {
		k := r.IntN(8)
		vars := randomVars(r, k)
		table := randomPart(r, k)
		d := diagramOf(vars, table)
		least := 0
		if s := diagram.Support(d); len(s) > 0 {
			least = s[len(s)-1] + 1
		}
		checkCount(t, d, least-1, "", api.ErrArg)
		checkCount(t, d, 65, "", api.ErrArg)
		var in int64
		for _, is := range table {
			in += int64(bit(is))
		}
		for n := max(least, k); n <= 64; n++ {
			// Each of the n - k other conditions doubles the count.
			want := new(big.Int).Lsh(big.NewInt(in), uint(n-k))
			checkCount(t, d, n, want.String(), api.OK)
		}
	}
}

// P2.1, B9: numbers at the limits, and the errors in their order.
func TestCountEdges(t *testing.T) {
	m := must(t)
	none, all, last := diagram.Constant(false), diagram.Constant(true), m(diagram.Var(63))
	for _, n := range []int{0, 1, 31, 32, 63, 64} {
		checkCount(t, none, n, "0", api.OK)
	}
	checkCount(t, all, 0, "1", api.OK)
	checkCount(t, all, 1, "2", api.OK)
	checkCount(t, all, 32, "4294967296", api.OK)
	checkCount(t, all, 63, "9223372036854775808", api.OK)
	checkCount(t, all, 64, "18446744073709551616", api.OK)
	checkCount(t, last, 64, "9223372036854775808", api.OK)
	checkCount(t, last, 63, "", api.ErrArg)
	one := all
	for v := range 64 {
		one = m(diagram.And(one, m(diagram.Var(v))))
	}
	checkCount(t, one, 64, "1", api.OK)
	checkCount(t, m(diagram.Not(one)), 64, "18446744073709551615", api.OK)
	checkCount(t, m(diagram.Var(0)), 1, "1", api.OK)
	checkCount(t, m(diagram.Var(0)), 0, "", api.ErrArg)
	for _, n := range []int{-1, 65, -1 << 63, 1<<63 - 1} {
		checkCount(t, none, n, "", api.ErrArg)
		checkCount(t, all, n, "", api.ErrArg)
		checkCount(t, last, n, "", api.ErrArg)
		checkCount(t, large(t), n, "", api.ErrLarge)
	}
	for _, d := range broken() {
		checkCount(t, d, 64, "", api.ErrDiagram)
		checkCount(t, d, -1, "", api.ErrDiagram)
	}
}

// P2.6: the counts of a set and its complement, and of a union and an intersection.
func TestCountLaws(t *testing.T) {
	r := rand.New(rand.NewPCG(2, 13))
	m := must(t)
	sum := func(a, b api.Diagram, n int) string {
		x, e := diagram.Count(a, n)
		y, f := diagram.Count(b, n)
		total, g := natural.Add(x, y)
		if e != api.OK || f != api.OK || g != api.OK {
			t.Fatalf("errors %v, %v, %v", e, f, g)
		}
		return natural.Text(total)
	}
	none, all := diagram.Constant(false), diagram.Constant(true)
	for range 300 {
		a, b := random(r), random(r)
		n := 64
		if s := append(diagram.Support(a), diagram.Support(b)...); len(s) > 0 {
			n = slices.Max(s) + 1 + r.IntN(64-slices.Max(s))
		}
		if sum(a, m(diagram.Not(a)), n) != sum(all, none, n) {
			t.Fatalf("the counts of %v and its complement", a)
		}
		if sum(a, b, n) != sum(m(diagram.And(a, b)), m(diagram.Or(a, b)), n) {
			t.Fatalf("the counts of %v and %v", a, b)
		}
	}
}
