package formula_test

import (
	"math/rand/v2"
	"slices"
	"testing"

	"koine/api"
	"koine/diagram"
	"koine/formula"
)

// P3.1, P3.4, C5: the diagram has the configurations in which the formula is true, whatever the other conditions are.
func TestDiagram(t *testing.T) {
	r := rand.New(rand.NewPCG(3, 7))
	for range 1500 {
		vars := r.Perm(api.MaxConditions)[:1+r.IntN(6)]
		x := random(r, 1+r.IntN(40), vars)
		f := x.shuffled(r)
		d, e := formula.Diagram(f)
		if e != api.OK || diagram.Check(d) != api.OK {
			t.Fatalf("Diagram(%v) = %v, %v", f, d, e)
		}
		for j := range 1 << len(vars) {
			c := api.Config(r.Uint64())
			for i, v := range vars {
				c &^= 1 << v
				c |= api.Config(j>>i&1) << v
			}
			want := x.value(c)
			if diagram.Holds(d, c) != want || formula.Holds(f, c) != want {
				t.Fatalf("Holds of %v, %x is not %v", f, c, want)
			}
		}
	}
}

// P3.5: the set of a conjunction is the intersection, and so on.
func TestOperators(t *testing.T) {
	r := rand.New(rand.NewPCG(3, 8))
	m := must(t)
	set := func(x *expr) api.Diagram { return m(formula.Diagram(x.shuffled(r))) }
	for range 2000 {
		vars := r.Perm(api.MaxConditions)[:1+r.IntN(7)]
		x, y := random(r, 1+r.IntN(20), vars), random(r, 1+r.IntN(20), vars)
		a, b := set(x), set(y)
		if !diagram.Same(a, setOf(t, x)) {
			t.Fatalf("the set of %v", x.postorder())
		}
		for i, pair := range [][2]api.Diagram{
			{set(and(x, y)), m(diagram.And(a, b))},
			{set(or(x, y)), m(diagram.Or(a, b))},
			{set(not(x)), m(diagram.Not(a))},
			{set(constant(true)), diagram.Constant(true)},
			{set(constant(false)), diagram.Constant(false)},
			{set(variable(vars[0])), m(diagram.Var(vars[0]))},
		} {
			if !diagram.Same(pair[0], pair[1]) {
				t.Fatalf("operator %d of %v and %v", i, x.postorder(), y.postorder())
			}
		}
	}
}

// pairs returns the disjunction of n pairs of conditions i and distance + i.
func pairs(n, distance int) *expr {
	x := constant(false)
	for i := range n {
		x = or(x, and(variable(i), variable(distance+i)))
	}
	return x
}

// P3.1, C5, R9: a diagram has at most MaxBranches branches; with at most 14 conditions there is always one.
func TestDiagramLimit(t *testing.T) {
	d, e := formula.Diagram(pairs(11, 12).postorder())
	if e != api.OK || len(d.Nodes) != 4094 {
		t.Errorf("11 pairs: %d branches, %v", len(d.Nodes), e)
	}
	d, e = formula.Diagram(pairs(12, 12).postorder())
	if e != api.ErrLarge || len(d.Nodes) != 0 || d.Root != 0 {
		t.Errorf("12 pairs: %d branches, %v", len(d.Nodes), e)
	}
	r := rand.New(rand.NewPCG(3, 9))
	for range 40 {
		vars := r.Perm(api.MaxConditions)[:14]
		f := random(r, api.MaxNodes, vars).shuffled(r)
		if d, e := formula.Diagram(f); e != api.OK || diagram.Check(d) != api.OK {
			t.Errorf("14 conditions: %d branches, %v", len(d.Nodes), e)
		}
	}
}

// canonical returns the canonical formula of a set over the conditions vars, from the table of its configurations (entry j: condition vars[i] has the value of bit i of j) by the table of C6.
func canonical(vars []int, table []bool) *expr {
	if !slices.Contains(table, !table[0]) {
		return constant(table[0])
	}
	var low, high []bool
	for j := 0; j < len(table); j += 2 {
		low, high = append(low, table[j]), append(high, table[j+1])
	}
	if slices.Equal(low, high) {
		return canonical(vars[1:], low)
	}
	x := variable(vars[0])
	h, l := canonical(vars[1:], high), canonical(vars[1:], low)
	everything, empty := !slices.Contains(high, false), !slices.Contains(high, true)
	lowEverything, lowEmpty := !slices.Contains(low, false), !slices.Contains(low, true)
	switch {
	case everything && lowEmpty:
		return x
	case empty && lowEverything:
		return not(x)
	case lowEmpty:
		return and(x, h)
	case empty:
		return and(not(x), l)
	case everything:
		return or(x, l)
	case lowEverything:
		return or(not(x), h)
	}
	return or(and(x, h), and(not(variable(vars[0])), l))
}

// unite returns the set of a table as the union of its configurations.
func unite(t *testing.T, vars []int, table []bool) api.Diagram {
	t.Helper()
	m := must(t)
	set := diagram.Constant(false)
	for j, in := range table {
		if !in {
			continue
		}
		one := diagram.Constant(true)
		for i, v := range vars {
			literal := m(diagram.Var(v))
			if j>>i&1 == 0 {
				literal = m(diagram.Not(literal))
			}
			one = m(diagram.And(one, literal))
		}
		set = m(diagram.Or(set, one))
	}
	return set
}

// checkOf fails unless Of returns the canonical formula of a table's set, Diagram the set again, and Text the formula's text.
func checkOf(t *testing.T, vars []int, table []bool) api.Formula {
	t.Helper()
	d := unite(t, vars, table)
	x := canonical(vars, table)
	f, e := formula.Of(d)
	expect(t, "Of", f, e, x.postorder(), api.OK)
	back, e := formula.Diagram(f)
	if e != api.OK || !diagram.Same(back, d) {
		t.Fatalf("Diagram(Of(%v)) = %v, %v", d, back, e)
	}
	s, e := formula.Text(many(), d)
	expectText(t, "Text", s, e, x.text(many()), api.OK)
	printed, e := formula.Print(many(), f)
	expectText(t, "Print", printed, e, s, api.OK)
	return f
}

// P3.1, P3.4, C6: all sets of three conditions, and no two of them have the same formula.
func TestOfSmall(t *testing.T) {
	var seen []api.Formula
	for number := range 256 {
		table := make([]bool, 8)
		for j := range table {
			table[j] = number>>j&1 == 1
		}
		f := checkOf(t, []int{0, 1, 2}, table)
		for _, other := range seen {
			if slices.Equal(f, other) {
				t.Fatalf("two sets have the formula %v", f)
			}
		}
		seen = append(seen, f)
	}
}

// P3.1, P3.4, C6: random sets of up to six of all conditions.
func TestOfRandom(t *testing.T) {
	r := rand.New(rand.NewPCG(3, 10))
	for range 500 {
		n := r.IntN(7)
		vars := r.Perm(api.MaxConditions)[:n]
		slices.Sort(vars)
		table := make([]bool, 1<<n)
		share := r.IntN(9)
		for j := range table {
			table[j] = r.IntN(8) < share
		}
		checkOf(t, vars, table)
	}
}

// P3.4: two formulas have the same canonical formula exactly if they are true in the same configurations.
func TestOfEqual(t *testing.T) {
	of := func(x *expr) (api.Formula, uint) {
		f, e := formula.Of(must(t)(formula.Diagram(x.postorder())))
		if e != api.OK {
			t.Fatalf("Of: %v", e)
		}
		var values uint
		for c := range api.Config(4) {
			if x.value(c) {
				values |= 1 << c
			}
		}
		return f, values
	}
	known := map[uint]api.Formula{}
	for n := 1; n <= 5; n++ {
		for _, x := range small(n) {
			f, values := of(x)
			if g, ok := known[values]; ok {
				expect(t, "Of", f, api.OK, g, api.OK)
			}
			known[values] = f
		}
	}
	for i, f := range known {
		for j, g := range known {
			if i != j && slices.Equal(f, g) {
				t.Errorf("two sets have the formula %v", f)
			}
		}
	}
}

// P3.1, C6 and C7: each line of the table.
func TestOfLines(t *testing.T) {
	a, b, c := variable(0), variable(1), variable(2)
	either := or(and(b, not(c)), and(not(b), c))
	for want, x := range map[string]*expr{
		"false":                           and(a, not(a)),
		"true":                            or(a, not(a)),
		"A":                               a,
		"!A":                              not(a),
		"C":                               and(c, or(a, not(a))),
		"A && B":                          and(b, a),
		"A && !B":                         and(not(b), a),
		"!A && B":                         and(b, not(a)),
		"!A && !B":                        not(or(b, a)),
		"A || B":                          or(b, a),
		"A || !B":                         or(not(b), a),
		"!A || B":                         or(b, not(a)),
		"!A || !B":                        not(and(b, a)),
		"A && B || !A && !B":              not(or(and(a, not(b)), and(b, not(a)))),
		"A && (B && C)":                   and(and(a, b), c),
		"A || (B || C)":                   or(or(a, b), c),
		"A && (B || C)":                   or(and(a, b), and(a, c)),
		"A || B && C":                     and(or(a, b), or(a, c)),
		"A && B || !A && C":               or(and(a, b), and(not(a), c)),
		"A && (B && !C || !B && C)":       and(a, either),
		"!A || (B && !C || !B && C)":      or(not(a), either),
		"A && (B || C) || !A && (B && C)": or(and(a, b), or(and(a, c), and(b, c))),
	} {
		s, e := formula.Text(abc(), setOf(t, x))
		expectText(t, "Text", s, e, want, api.OK)
	}
}

// parity returns the configurations in which an odd number of the conditions from first to last is true.
func parity(t *testing.T, first, last int) api.Diagram {
	m := must(t)
	d := diagram.Constant(false)
	for v := first; v <= last; v++ {
		d = m(diagram.Xor(d, m(diagram.Var(v))))
	}
	return d
}

// P3.1, C6, R9: a canonical formula has at most MaxNodes nodes, however many there would be.
func TestOfLimit(t *testing.T) {
	m := must(t)
	// The formula of the parity of 7 conditions has 474 nodes; each condition before it adds 2 nodes, or 3 if it is negated.
	d := parity(t, 57, 63)
	for v := range 19 {
		d = m(diagram.And(d, m(diagram.Var(20+v))))
	}
	f, e := formula.Of(d)
	if e != api.OK || len(f) != api.MaxNodes || formula.Check(f) != api.OK || !diagram.Same(m(formula.Diagram(f)), d) {
		t.Errorf("%d nodes, %v", len(f), e)
	}
	if s, e := formula.Text(many(), d); e != api.OK || s == "" {
		t.Errorf("Text: %v", e)
	}
	for i, large := range []api.Diagram{
		m(diagram.And(d, m(diagram.Var(19)))),
		m(diagram.Or(d, m(diagram.Var(19)))),
		m(diagram.Choose(m(diagram.Var(20)), diagram.Constant(false), m(diagram.Restrict(d, 20, true)))), // 513 nodes
		parity(t, 0, 7),
		parity(t, 0, 63),
		m(formula.Diagram(pairs(11, 12).postorder())),
	} {
		f, e := formula.Of(large)
		expect(t, "Of", f, e, nil, api.ErrLarge)
		s, e := formula.Text(many(), large)
		expectText(t, "Text", s, e, "", api.ErrLarge)
		if diagram.Check(large) != api.OK {
			t.Fatalf("diagram %d is not valid", i)
		}
	}
}

// P3.1, C6: a set that has a long chain of branches, one for each condition.
func TestOfChain(t *testing.T) {
	m := must(t)
	conjunction, disjunction := diagram.Constant(true), diagram.Constant(false)
	x, y := variable(63), variable(63)
	for v := range 64 {
		conjunction, disjunction = m(diagram.And(conjunction, m(diagram.Var(v)))), m(diagram.Or(disjunction, m(diagram.Var(v))))
		if v < 63 {
			x, y = and(variable(62-v), x), or(variable(62-v), y)
		}
	}
	f, e := formula.Of(conjunction)
	expect(t, "Of", f, e, x.postorder(), api.OK)
	f, e = formula.Of(disjunction)
	expect(t, "Of", f, e, y.postorder(), api.OK)
}

// P3.1, C6 and C7, R3: the errors of diagram.Check, then those of the formula and of Print.
func TestOfErrors(t *testing.T) {
	for _, x := range []struct {
		d api.Diagram
		e api.Errno
	}{
		{api.Diagram{Root: -1}, api.ErrDiagram},
		{api.Diagram{Root: 2}, api.ErrDiagram},
		{api.Diagram{Nodes: []api.Branch{{Var: 64, High: 1}}, Root: 2}, api.ErrDiagram},
		{api.Diagram{Nodes: []api.Branch{{Low: 1, High: 1}}, Root: 2}, api.ErrDiagram},
		{api.Diagram{Nodes: []api.Branch{{High: 2}}, Root: 2}, api.ErrDiagram},
		{api.Diagram{Nodes: []api.Branch{{High: 1}}, Root: 1}, api.ErrDiagram},
		{api.Diagram{Nodes: make([]api.Branch, api.MaxBranches), Root: 2}, api.ErrDiagram},
		{api.Diagram{Nodes: make([]api.Branch, api.MaxBranches+1), Root: 2}, api.ErrLarge},
	} {
		if e := diagram.Check(x.d); e != x.e {
			t.Fatalf("Check: %v, want %v", e, x.e)
		}
		f, e := formula.Of(x.d)
		expect(t, "Of", f, e, nil, x.e)
		s, e := formula.Text(nil, x.d)
		expectText(t, "Text", s, e, "", x.e)
	}
}

// P3.1, C7: a condition without a name is an error of Print, which comes after the size of the formula.
func TestTextErrors(t *testing.T) {
	m := must(t)
	s, e := formula.Text(abc(), m(diagram.Var(2)))
	expectText(t, "Text", s, e, "C", api.OK)
	s, e = formula.Text(abc(), m(diagram.Var(3)))
	expectText(t, "Text", s, e, "", api.ErrFormula)
	s, e = formula.Text(nil, m(diagram.Var(0)))
	expectText(t, "Text", s, e, "", api.ErrFormula)
	s, e = formula.Text(abc(), parity(t, 0, 20))
	expectText(t, "Text", s, e, "", api.ErrLarge)
}
