package diagram_test

import (
	"math/bits"
	"math/rand/v2"
	"slices"
	"testing"

	"koine/api"
	"koine/diagram"
)

// An operation of two sets, with its definition for one configuration.
type binary struct {
	name  string
	apply func(a, b api.Diagram) (api.Diagram, api.Errno)
	holds func(a, b bool) bool
}

func binaries() []binary {
	return []binary{
		{"And", diagram.And, func(a, b bool) bool { return a && b }},
		{"Or", diagram.Or, func(a, b bool) bool { return a || b }},
		{"Xor", diagram.Xor, func(a, b bool) bool { return a != b }},
	}
}

// joined returns the table of an operation's result.
func joined(holds func(a, b bool) bool, a, b []bool) []bool {
	table := make([]bool, len(a))
	for j := range a {
		table[j] = holds(a[j], b[j])
	}
	return table
}

// chosen returns the table of a choice.
func chosen(c, a, b []bool) []bool {
	table := slices.Clone(b)
	for j := range c {
		if c[j] {
			table[j] = a[j]
		}
	}
	return table
}

// P2.1 to P2.3, B3: all sets of three conditions, pair by pair. The results are the only valid diagrams of the sets that the definitions say.
func TestOperationsSmall(t *testing.T) {
	vars := []int{0, 31, 63}
	var sets []api.Diagram
	for i := range uint64(256) {
		sets = append(sets, diagramOf(vars, numbered(3, i)))
		if !valid(sets[i]) {
			t.Fatalf("the test's diagram %v is not valid", sets[i])
		}
	}
	for i, a := range sets {
		d, e := diagram.Not(a)
		expect(t, "Not", sets[255-i], d, e)
		for j, b := range sets {
			d, e := diagram.And(a, b)
			expect(t, "And", sets[i&j], d, e)
			d, e = diagram.Or(a, b)
			expect(t, "Or", sets[i|j], d, e)
			d, e = diagram.Xor(a, b)
			expect(t, "Xor", sets[i^j], d, e)
			if diagram.Same(a, b) != (i == j) {
				t.Fatalf("Same of sets %d and %d", i, j)
			}
		}
	}
}

// P2.1 to P2.3, B4: all sets of two conditions.
func TestChooseSmall(t *testing.T) {
	var sets []api.Diagram
	for i := range uint64(16) {
		sets = append(sets, diagramOf([]int{7, 8}, numbered(2, i)))
	}
	for i, c := range sets {
		for j, a := range sets {
			for k, b := range sets {
				d, e := diagram.Choose(c, a, b)
				expect(t, "Choose", sets[i&j|(15-i)&k], d, e)
			}
		}
	}
}

// P2.1 to P2.3, B3 to B5: random sets of up to ten of the 64 conditions, of which each argument depends on some.
func TestOperationsRandom(t *testing.T) {
	r := rand.New(rand.NewPCG(2, 3))
	for range 600 {
		n := r.IntN(11)
		vars := randomVars(r, n)
		a, b, c := randomPart(r, n), randomPart(r, n), randomPart(r, n)
		x, y, z := diagramOf(vars, a), diagramOf(vars, b), diagramOf(vars, c)
		for _, o := range binaries() {
			d, e := o.apply(x, y)
			expect(t, o.name, diagramOf(vars, joined(o.holds, a, b)), d, e)
		}
		d, e := diagram.Choose(z, x, y)
		expect(t, "Choose", diagramOf(vars, chosen(c, a, b)), d, e)
		d, e = diagram.Not(x)
		expect(t, "Not", diagramOf(vars, joined(func(a, _ bool) bool { return !a }, a, b)), d, e)
	}
}

// randomPart returns a table that depends on some of n conditions only.
func randomPart(r *rand.Rand, n int) []bool {
	table := randomTable(r, n, r.IntN(9))
	mask := r.IntN(1<<n) | r.IntN(1<<n)
	for j := range table {
		table[j] = table[j&mask]
	}
	return table
}

// P2.1, P2.3, P2.4, B5: restriction and quantification by each condition.
func TestRestrictAndExists(t *testing.T) {
	r := rand.New(rand.NewPCG(2, 4))
	for range 300 {
		n := r.IntN(8)
		vars := randomVars(r, n)
		a := randomPart(r, n)
		x := diagramOf(vars, a)
		for v := range 64 {
			low, high := slices.Clone(a), slices.Clone(a)
			if i := slices.Index(vars, v); i >= 0 {
				for j := range a {
					low[j], high[j] = a[j&^(1<<i)], a[j|1<<i]
				}
			}
			d, e := diagram.Restrict(x, v, false)
			expect(t, "Restrict to false", diagramOf(vars, low), d, e)
			d, e = diagram.Restrict(x, v, true)
			expect(t, "Restrict to true", diagramOf(vars, high), d, e)
			d, e = diagram.Exists(x, v)
			expect(t, "Exists", diagramOf(vars, joined(func(a, b bool) bool { return a || b }, low, high)), d, e)
		}
	}
}

// P2.3: the laws of a Boolean algebra, as equalities of diagrams.
func TestLaws(t *testing.T) {
	r := rand.New(rand.NewPCG(2, 5))
	m := must(t)
	and := func(a, b api.Diagram) api.Diagram { return m(diagram.And(a, b)) }
	or := func(a, b api.Diagram) api.Diagram { return m(diagram.Or(a, b)) }
	xor := func(a, b api.Diagram) api.Diagram { return m(diagram.Xor(a, b)) }
	not := func(a api.Diagram) api.Diagram { return m(diagram.Not(a)) }
	none, all := diagram.Constant(false), diagram.Constant(true)
	for range 400 {
		a, b, c := random(r), random(r), random(r)
		for i, law := range [][2]api.Diagram{
			{and(a, b), and(b, a)}, {or(a, b), or(b, a)}, {xor(a, b), xor(b, a)},
			{and(a, and(b, c)), and(and(a, b), c)}, {or(a, or(b, c)), or(or(a, b), c)}, {xor(a, xor(b, c)), xor(xor(a, b), c)},
			{and(a, or(b, c)), or(and(a, b), and(a, c))}, {or(a, and(b, c)), and(or(a, b), or(a, c))}, {and(a, xor(b, c)), xor(and(a, b), and(a, c))},
			{and(a, or(a, b)), a}, {or(a, and(a, b)), a}, {and(a, a), a}, {or(a, a), a}, {xor(a, a), none},
			{and(a, none), none}, {and(a, all), a}, {or(a, none), a}, {or(a, all), all}, {xor(a, none), a}, {xor(a, all), not(a)},
			{and(a, not(a)), none}, {or(a, not(a)), all}, {not(not(a)), a}, {not(all), none}, {not(none), all},
			{not(and(a, b)), or(not(a), not(b))}, {not(or(a, b)), and(not(a), not(b))}, {xor(a, b), and(or(a, b), not(and(a, b)))},
			{m(diagram.Choose(c, a, b)), or(and(c, a), and(not(c), b))}, {m(diagram.Choose(c, a, a)), a},
			{m(diagram.Choose(all, a, b)), a}, {m(diagram.Choose(none, a, b)), b}, {m(diagram.Choose(a, all, none)), a},
		} {
			if !diagram.Same(law[0], law[1]) {
				t.Fatalf("law %d: %v and %v, for %v, %v, %v", i, law[0], law[1], a, b, c)
			}
		}
	}
}

// P2.4: every set is the choice between its restrictions, which do not depend on the condition.
func TestExpansion(t *testing.T) {
	r := rand.New(rand.NewPCG(2, 6))
	m := must(t)
	sets := []api.Diagram{full(t), straight(t), crossed(t)}
	for range 100 {
		sets = append(sets, random(r))
	}
	for _, a := range sets {
		for v := range 64 {
			low, high := m(diagram.Restrict(a, v, false)), m(diagram.Restrict(a, v, true))
			d, e := diagram.Choose(m(diagram.Var(v)), high, low)
			expect(t, "Choose", a, d, e)
			d, e = diagram.Exists(a, v)
			expect(t, "Exists", m(diagram.Or(low, high)), d, e)
			for _, side := range []api.Diagram{low, high, d} {
				if slices.Contains(diagram.Support(side), v) || diagram.Check(side) != api.OK {
					t.Fatalf("a restriction by %d depends on it, or is not valid", v)
				}
			}
		}
	}
}

// P2.2, R9, B3 and B4: a result may have MaxBranches branches and no more.
func TestResultLimit(t *testing.T) {
	m := must(t)
	most := full(t)
	more := m(diagram.Var(63))
	for _, o := range binaries() {
		d, e := o.apply(most, more)
		refuse(t, o.name, api.ErrLarge, d, e)
		d, e = o.apply(more, most)
		refuse(t, o.name, api.ErrLarge, d, e)
		d, e = o.apply(most, most)
		if e != api.OK {
			t.Errorf("%s of %d branches: %v", o.name, len(most.Nodes), e)
		}
		d, e = o.apply(straight(t), crossed(t))
		refuse(t, o.name, api.ErrLarge, d, e)
	}
	d, e := diagram.And(most, m(diagram.Var(23)))
	expect(t, "And", most, d, e)
	d, e = diagram.Not(most)
	if e != api.OK || len(d.Nodes) != len(most.Nodes) || !diagram.Disjoint(d, most) {
		t.Errorf("Not: %d branches, %v", len(d.Nodes), e)
	}
	d, e = diagram.Choose(more, most, diagram.Constant(false))
	refuse(t, "Choose", api.ErrLarge, d, e)
	d, e = diagram.Choose(crossed(t), straight(t), diagram.Constant(false))
	refuse(t, "Choose", api.ErrLarge, d, e)
}

// P2.1, R9, B4: what a choice needs on the way has no limit.
func TestChooseIntermediate(t *testing.T) {
	c, a := crossed(t), straight(t)
	d, e := diagram.And(c, a)
	refuse(t, "And", api.ErrLarge, d, e)
	d, e = diagram.Choose(c, a, a)
	expect(t, "Choose", a, d, e)
}

// P2.1, R9, B5: a restriction never has more branches than the set; a quantified set can.
func TestExistsLimit(t *testing.T) {
	m := must(t)
	chosen := m(diagram.Choose(m(diagram.Var(50)), diagram.Constant(true), straight(t)))
	d, e := diagram.Exists(chosen, 50)
	expect(t, "Exists", diagram.Constant(true), d, e)
	// The conditions move up by one, so that condition 0 chooses between two sets whose union is too large.
	a := pairs(t, 10, 1, func(i int) int { return 21 + i })
	b := pairs(t, 10, 11, func(i int) int { return 31 + 7*i%10 })
	both := m(diagram.Choose(m(diagram.Var(0)), a, b))
	d, e = diagram.Exists(both, 0)
	refuse(t, "Exists", api.ErrLarge, d, e)
	d, e = diagram.Restrict(both, 0, true)
	expect(t, "Restrict", a, d, e)
	d, e = diagram.Restrict(both, 0, false)
	expect(t, "Restrict", b, d, e)
	d, e = diagram.Exists(full(t), 23)
	expect(t, "Exists", m(diagram.Restrict(full(t), 23, true)), d, e)
}

// P2.1, R4, B3 to B5: the errors in their order.
func TestOperationErrors(t *testing.T) {
	good, bad, big := must(t)(diagram.Var(3)), broken()[4], large(t)
	kinds := []struct {
		d api.Diagram
		e api.Errno
	}{{good, api.OK}, {bad, api.ErrDiagram}, {big, api.ErrLarge}, {full(t), api.OK}}
	first := func(errors ...api.Errno) api.Errno {
		for _, e := range errors {
			if e != api.OK {
				return e
			}
		}
		return api.OK
	}
	for _, x := range kinds {
		checkUnary(t, x.d, x.e)
		for _, y := range kinds {
			for _, o := range binaries() {
				if want := first(x.e, y.e); want != api.OK {
					d, e := o.apply(x.d, y.d)
					refuse(t, o.name, want, d, e)
				}
			}
			for _, z := range kinds {
				if want := first(x.e, y.e, z.e); want != api.OK {
					d, e := diagram.Choose(x.d, y.d, z.d)
					refuse(t, "Choose", want, d, e)
				}
			}
		}
	}
}

// checkUnary checks the errors of the operations on one set, whose Check returns check.
func checkUnary(t *testing.T, x api.Diagram, check api.Errno) {
	t.Helper()
	if check != api.OK {
		d, e := diagram.Not(x)
		refuse(t, "Not", check, d, e)
	}
	for _, v := range []int{0, 63, 64, -1, -1 << 63, 1<<63 - 1} {
		want := check
		if want == api.OK && (v < 0 || v > 63) {
			want = api.ErrArg
		}
		if want == api.OK {
			continue
		}
		for _, value := range []bool{false, true} {
			d, e := diagram.Restrict(x, v, value)
			refuse(t, "Restrict", want, d, e)
		}
		d, e := diagram.Exists(x, v)
		refuse(t, "Exists", want, d, e)
	}
}

// P2.1, R1, R3: every operation refuses every diagram that is not valid.
func TestOperationsOfBroken(t *testing.T) {
	good := must(t)(diagram.Var(0))
	for _, bad := range broken() {
		for _, o := range binaries() {
			d, e := o.apply(bad, good)
			refuse(t, o.name, api.ErrDiagram, d, e)
			d, e = o.apply(good, bad)
			refuse(t, o.name, api.ErrDiagram, d, e)
		}
		d, e := diagram.Choose(bad, good, good)
		refuse(t, "Choose", api.ErrDiagram, d, e)
		d, e = diagram.Choose(good, bad, good)
		refuse(t, "Choose", api.ErrDiagram, d, e)
		d, e = diagram.Choose(good, good, bad)
		refuse(t, "Choose", api.ErrDiagram, d, e)
		checkUnary(t, bad, api.ErrDiagram)
	}
}

// R6: results are new memory, and arguments stay as they are, also behind their end.
func TestMemory(t *testing.T) {
	r := rand.New(rand.NewPCG(2, 7))
	for range 200 {
		a, b, c := random(r), random(r), random(r)
		for name, call := range map[string]func(a, b, c api.Diagram) (api.Diagram, api.Errno){
			"Not":      func(a, _, _ api.Diagram) (api.Diagram, api.Errno) { return diagram.Not(a) },
			"And":      func(a, b, _ api.Diagram) (api.Diagram, api.Errno) { return diagram.And(a, b) },
			"Or":       func(a, b, _ api.Diagram) (api.Diagram, api.Errno) { return diagram.Or(a, b) },
			"Xor":      func(a, b, _ api.Diagram) (api.Diagram, api.Errno) { return diagram.Xor(a, b) },
			"Choose":   diagram.Choose,
			"Restrict": func(a, _, _ api.Diagram) (api.Diagram, api.Errno) { return diagram.Restrict(a, 31, true) },
			"Exists":   func(a, _, _ api.Diagram) (api.Diagram, api.Errno) { return diagram.Exists(a, 32) },
			"and all":  func(a, _, _ api.Diagram) (api.Diagram, api.Errno) { return diagram.And(a, diagram.Constant(true)) },
		} {
			x, y, z := spacious(a), spacious(b), spacious(c)
			d, e := call(x, y, z)
			if e != api.OK {
				t.Fatalf("%s: %v", name, e)
			}
			want := slices.Clone(d.Nodes)
			spoil(d)
			for _, pair := range [][2]api.Diagram{{a, x}, {b, y}, {c, z}} {
				checkSpacious(t, name, pair[0], pair[1])
			}
			again, _ := call(a, b, c)
			if !slices.Equal(again.Nodes, want) {
				t.Fatalf("%s returns another result when its first one is changed", name)
			}
		}
	}
}

// spare is written behind the end of the branches.
var spare = api.Branch{Var: 11, Low: 22, High: 33}

// spacious returns a copy of a diagram with spare capacity.
func spacious(a api.Diagram) api.Diagram {
	nodes := append(slices.Clone(a.Nodes), spare, spare)
	return api.Diagram{Nodes: nodes[:len(a.Nodes)], Root: a.Root}
}

func checkSpacious(t *testing.T, name string, want, got api.Diagram) {
	t.Helper()
	behind := got.Nodes[len(got.Nodes) : len(got.Nodes)+2]
	if !same(want, got) || behind[0] != spare || behind[1] != spare {
		t.Fatalf("%s has changed an argument", name)
	}
}

// spoil changes all memory of a diagram.
func spoil(d api.Diagram) {
	nodes := d.Nodes[:cap(d.Nodes)]
	for i := range nodes {
		nodes[i] = api.Branch{Var: -5, Low: -5, High: -5}
	}
}

// parity returns the configurations in which an odd number of conditions is true: 127 branches, but 2^64 ways from the root to a constant.
func parity(t *testing.T) api.Diagram {
	m := must(t)
	d := diagram.Constant(false)
	for v := range 64 {
		d = m(diagram.Xor(d, m(diagram.Var(v))))
	}
	return d
}

// R1, P2.1: the work depends on the numbers of branches, not on the number of ways through them.
func TestManyWays(t *testing.T) {
	m := must(t)
	none, all := diagram.Constant(false), diagram.Constant(true)
	odd := parity(t)
	even := m(diagram.Not(odd))
	if len(odd.Nodes) != 127 || diagram.Check(odd) != api.OK || diagram.Same(odd, even) {
		t.Fatalf("%d branches", len(odd.Nodes))
	}
	expect(t, "And", odd, m(diagram.And(odd, all)), api.OK)
	expect(t, "And", none, m(diagram.And(odd, even)), api.OK)
	expect(t, "Or", all, m(diagram.Or(odd, even)), api.OK)
	expect(t, "Xor", even, m(diagram.Xor(odd, all)), api.OK)
	expect(t, "Choose", odd, m(diagram.Choose(even, none, odd)), api.OK)
	expect(t, "Choose", all, m(diagram.Choose(even, even, odd)), api.OK)
	for v := range 64 {
		expect(t, "Exists", all, m(diagram.Exists(odd, v)), api.OK)
		expect(t, "Restrict", m(diagram.Not(m(diagram.Restrict(odd, v, false)))), m(diagram.Restrict(odd, v, true)), api.OK)
	}
	if !diagram.Disjoint(odd, even) || diagram.Within(odd, even) || !diagram.Within(odd, odd) {
		t.Error("Disjoint or Within")
	}
	checkCount(t, odd, 64, "9223372036854775808", api.OK)
	for j := range api.Config(1000) {
		c := j * 0x9E3779B97F4A7C15
		if diagram.Holds(odd, c) != (bits.OnesCount64(uint64(c))%2 == 1) {
			t.Fatalf("Holds of %x", c)
		}
	}
}
