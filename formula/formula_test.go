package formula_test

import (
	"math/rand/v2"
	"slices"
	"testing"

	"koine/api"
	"koine/diagram"
	"koine/formula"
)

// The chapter's examples.
func TestExamples(t *testing.T) {
	f, e := formula.Parse(abc(), "!A && B")
	want := api.Formula{{Op: api.OpVar}, {Op: api.OpNot}, {Op: api.OpVar, Var: 1}, {Op: api.OpAnd, A: 1, B: 2}}
	expect(t, "Parse", f, e, want, api.OK)
	s, e := formula.Print(abc(), want)
	expectText(t, "Print", s, e, "!A && B", api.OK)
	f, e = formula.Parse(abc(), "A &&")
	expect(t, "Parse", f, e, nil, api.ErrSyntax)
	f, e = formula.Parse(abc(), "A && D")
	expect(t, "Parse", f, e, nil, api.ErrNone)
	s, e = formula.Print(abc(), and(variable(0), and(variable(1), variable(2))).postorder())
	expectText(t, "Print", s, e, "A && (B && C)", api.OK)
	m := must(t)
	s, e = formula.Text(abc(), m(diagram.Xor(m(diagram.Var(0)), m(diagram.Var(1)))))
	expectText(t, "Text", s, e, "A && !B || !A && B", api.OK)
}

// P3.1, C1: Check refuses what is no formula.
func TestCheckReasons(t *testing.T) {
	for i, f := range brokenFormulas() {
		if wellFormed(f) {
			t.Fatalf("the test's formula %d is valid", i)
		}
		if e := formula.Check(f); e != api.ErrFormula {
			t.Errorf("broken formula %d: %v", i, e)
		}
	}
}

// P3.1, C1: formulas at the limits, and ones that are not in postorder.
func TestCheckValid(t *testing.T) {
	for i, f := range []api.Formula{
		{{}},
		{{Op: api.OpFalse}},
		{{Op: api.OpTrue}},
		{{Op: api.OpVar}},
		{{Op: api.OpVar, Var: 63}},
		{{Op: api.OpVar}, {Op: api.OpVar}, {Op: api.OpAnd, A: 1, B: 0}},
		{{Op: api.OpVar}, {Op: api.OpVar}, {Op: api.OpNot, A: 0}, {Op: api.OpNot, A: 1}, {Op: api.OpOr, A: 3, B: 2}},
		chain(api.MaxNodes),
		chain(api.MaxNodes - 1),
	} {
		if e := formula.Check(f); e != api.OK || !wellFormed(f) {
			t.Errorf("valid formula %d: %v", i, e)
		}
	}
}

// P3.1, C1: all formulas with one or two nodes whose fields are near their limits.
func TestCheckSmall(t *testing.T) {
	var nodes []api.FormulaNode
	for op := -1; op <= 6; op++ {
		for _, v := range []int{-1, 0, 1, 63, 64} {
			for a := -1; a <= 2; a++ {
				for b := -1; b <= 2; b++ {
					nodes = append(nodes, api.FormulaNode{Op: op, Var: v, A: a, B: b})
				}
			}
		}
	}
	for _, n := range nodes {
		agree(t, api.Formula{n})
		for _, m := range nodes {
			agree(t, api.Formula{n, m})
		}
	}
}

// P3.1, C1: random formulas with a few nodes, and valid ones in which one field is changed.
func TestCheckRandom(t *testing.T) {
	r := rand.New(rand.NewPCG(3, 1))
	valid := 0
	for range 300000 {
		f := api.Formula{{Op: api.OpVar, Var: r.IntN(2)}}
		for range 1 + r.IntN(4) {
			n := api.FormulaNode{Op: 2 + r.IntN(4)}
			if n.Op >= api.OpNot {
				n.A = r.IntN(len(f))
			}
			if n.Op >= api.OpAnd {
				n.B = r.IntN(len(f))
			}
			f = append(f, n)
		}
		agree(t, f)
		if wellFormed(f) {
			valid++
		}
	}
	if valid < 1000 {
		t.Errorf("only %d valid formulas", valid)
	}
	for range 50000 {
		f := random(r, 1+r.IntN(12), []int{0, 5, 63}).shuffled(r)
		agree(t, f)
		n := &f[r.IntN(len(f))]
		field := []*int{&n.Op, &n.Var, &n.A, &n.B}[r.IntN(4)]
		*field += r.IntN(5) - 2
		agree(t, f)
	}
}

// P3.1, P3.4, C4: the value is that of the tree, in whatever order the nodes are; that of the postorder is the same.
func TestHolds(t *testing.T) {
	r := rand.New(rand.NewPCG(3, 2))
	for range 2000 {
		vars := r.Perm(api.MaxConditions)[:1+r.IntN(6)]
		x := random(r, 1+r.IntN(30), vars)
		f, ordered := x.shuffled(r), x.postorder()
		for range 30 {
			c := api.Config(r.Uint64())
			want := x.value(c)
			if formula.Holds(f, c) != want || formula.Holds(ordered, c) != want {
				t.Fatalf("Holds(%v, %x) or Holds(%v, %x) is not %v", f, c, ordered, c, want)
			}
		}
	}
}

// P3.1, C4: every bit of a configuration counts, and no other one.
func TestHoldsVariable(t *testing.T) {
	for v := range api.MaxConditions {
		f := variable(v).postorder()
		c := api.Config(1) << v
		if !formula.Holds(f, c) || formula.Holds(f, ^c) || !formula.Holds(f, ^api.Config(0)) || formula.Holds(f, 0) {
			t.Errorf("Holds of condition %d", v)
		}
	}
	for i, f := range []api.Formula{chain(api.MaxNodes), chain(api.MaxNodes - 1)} {
		if formula.Holds(f, 1) != (i == 1) || formula.Holds(f, 0) != (i == 0) {
			t.Errorf("Holds of a chain of %d nodes", len(f))
		}
	}
}

// P3.1, R3, R8: every function refuses every formula that is not valid.
func TestBrokenFormulas(t *testing.T) {
	for i, f := range brokenFormulas() {
		for _, c := range []api.Config{0, 1, 2, 3, ^api.Config(0)} {
			if formula.Holds(f, c) {
				t.Errorf("broken formula %d holds", i)
			}
		}
		s, e := formula.Print(many(), f)
		expectText(t, "Print", s, e, "", api.ErrFormula)
		d, e := formula.Diagram(f)
		if e != api.ErrFormula || d.Root != 0 || len(d.Nodes) != 0 {
			t.Errorf("Diagram of broken formula %d = %v, %v", i, d, e)
		}
	}
}

// R6: arguments stay as they are, also behind their end, and are not kept; results are new memory.
func TestMemory(t *testing.T) {
	r := rand.New(rand.NewPCG(3, 3))
	for range 300 {
		x := random(r, 1+r.IntN(12), []int{0, 1, 2})
		f := x.shuffled(r)
		spare := api.FormulaNode{Op: 99, Var: 98, A: 97, B: 96}
		argument := append(slices.Clone(f), spare, spare)[:len(f)]
		names := append(abc(), "spare")[:3]
		s, _ := formula.Print(names, argument)
		d, _ := formula.Diagram(argument)
		formula.Check(argument)
		formula.Holds(argument, 5)
		if !slices.Equal(argument, f) || argument[:len(f)+2][len(f)] != spare || argument[:len(f)+2][len(f)+1] != spare {
			t.Fatal("a formula has changed")
		}
		first, _ := formula.Parse(names, s)
		canonical, _ := formula.Of(d)
		if !slices.Equal(names[:4], append(abc(), "spare")) {
			t.Fatal("a name list has changed")
		}
		want := slices.Clone(canonical)
		set := api.Diagram{Nodes: slices.Clone(d.Nodes), Root: d.Root}
		for _, g := range []api.Formula{argument, first, canonical} {
			for i := range g[:cap(g)] {
				g[:cap(g)][i] = spare
			}
		}
		names[0] = "other"
		if !diagram.Same(d, set) {
			t.Fatal("a diagram shares memory with a formula")
		}
		again, e := formula.Parse(abc(), s)
		expect(t, "Parse", again, e, x.postorder(), api.OK)
		again, e = formula.Of(d)
		expect(t, "Of", again, e, want, api.OK)
	}
}

// R6, C5: the diagrams of two calls do not share memory.
func TestDiagramMemory(t *testing.T) {
	for _, x := range []*expr{variable(3), not(variable(3)), and(variable(3), constant(true)), or(variable(1), variable(2))} {
		f := x.postorder()
		d, _ := formula.Diagram(f)
		want := api.Diagram{Nodes: slices.Clone(d.Nodes), Root: d.Root}
		for i := range d.Nodes {
			d.Nodes[i] = api.Branch{Var: -1}
		}
		if again, e := formula.Diagram(f); e != api.OK || !diagram.Same(again, want) {
			t.Errorf("Diagram(%v) = %v, %v", f, again, e)
		}
	}
}
