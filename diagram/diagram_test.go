package diagram_test

import (
	"math/rand/v2"
	"slices"
	"testing"

	"koine/api"
	"koine/diagram"
)

// P2.1, B1: Check accepts the diagrams of sets, and no others.
func TestCheckReasons(t *testing.T) {
	for i, d := range broken() {
		if e := diagram.Check(d); e != api.ErrDiagram {
			t.Errorf("broken diagram %d, %v: %v", i, d, e)
		}
	}
	for _, d := range []api.Diagram{{}, {Root: 1}, {Nodes: []api.Branch{}, Root: 1}, full(t), straight(t)} {
		if e := diagram.Check(d); e != api.OK {
			t.Errorf("diagram with %d branches: %v", len(d.Nodes), e)
		}
	}
}

// P2.1, B1: the number of branches comes before every other reason.
func TestCheckLarge(t *testing.T) {
	for _, d := range []api.Diagram{large(t), {Nodes: make([]api.Branch, api.MaxBranches+1)}, {Nodes: make([]api.Branch, 100000), Root: -7}} {
		if e := diagram.Check(d); e != api.ErrLarge {
			t.Errorf("%d branches: %v", len(d.Nodes), e)
		}
	}
	if e := diagram.Check(api.Diagram{Nodes: make([]api.Branch, api.MaxBranches), Root: api.MaxBranches + 1}); e != api.ErrDiagram {
		t.Errorf("equal branches: %v", e)
	}
}

// agree fails unless Check says of a diagram what the definition says.
func agree(t *testing.T, d api.Diagram) {
	t.Helper()
	want := api.ErrDiagram
	if valid(d) {
		want = api.OK
	}
	if e := diagram.Check(d); e != want {
		t.Fatalf("Check(%v) = %v, want %v", d, e, want)
	}
}

// P2.1, B1: all diagrams with two branches, and many with three.
func TestCheckSmall(t *testing.T) {
	var branches []api.Branch
	for _, v := range []int{-1, 0, 1, 63, 64} {
		for low := -1; low <= 4; low++ {
			for high := -1; high <= 4; high++ {
				branches = append(branches, api.Branch{Var: v, Low: low, High: high})
			}
		}
	}
	for root := -1; root <= 4; root++ {
		agree(t, api.Diagram{Root: root})
		for _, a := range branches {
			agree(t, api.Diagram{Nodes: []api.Branch{a}, Root: root})
			for _, b := range branches {
				agree(t, api.Diagram{Nodes: []api.Branch{a, b}, Root: root})
			}
		}
	}
	r := rand.New(rand.NewPCG(2, 1))
	for range 300000 {
		nodes := []api.Branch{{Var: 2, Low: r.IntN(2), High: r.IntN(2)}}
		for range 2 + r.IntN(2) {
			nodes = append(nodes, api.Branch{Var: r.IntN(3), Low: r.IntN(5), High: r.IntN(5)})
		}
		agree(t, api.Diagram{Nodes: nodes, Root: len(nodes) + 1})
	}
}

// P2.1, B1: valid diagrams in which one field is changed, or two branches are exchanged.
func TestCheckChanged(t *testing.T) {
	r := rand.New(rand.NewPCG(2, 2))
	for range 20000 {
		d := random(r)
		agree(t, d)
		if len(d.Nodes) == 0 {
			continue
		}
		b := &d.Nodes[r.IntN(len(d.Nodes))]
		other := &d.Nodes[r.IntN(len(d.Nodes))]
		switch r.IntN(5) {
		case 0:
			b.Var += r.IntN(5) - 2
		case 1:
			b.Low = r.IntN(len(d.Nodes) + 3)
		case 2:
			b.High = r.IntN(len(d.Nodes) + 3)
		case 3:
			d.Root = r.IntN(len(d.Nodes) + 3)
		case 4:
			*b, *other = *other, *b
		}
		agree(t, d)
	}
}

// P2.1, B1: of many branches, no two are equal. The last branch but one is a copy of another, which the walk passes as well.
func TestCheckEqual(t *testing.T) {
	for _, n := range []int{3, 5, 14, 15, 16, 17, 18, 40, 60} {
		// A chain of conditions n..1 whose last branch has two ends: one equal to the first branch, or not.
		for _, end := range []api.Branch{{Var: n, Low: 0, High: 1}, {Var: n, Low: 1, High: 0}} {
			d := api.Diagram{Nodes: []api.Branch{{Var: n, Low: 0, High: 1}}}
			for v := n - 1; v > 0; v-- {
				d.Nodes = append(d.Nodes, api.Branch{Var: v, Low: 0, High: len(d.Nodes) + 1})
			}
			chain := len(d.Nodes) + 1
			d.Nodes = append(d.Nodes, end, api.Branch{Var: 0, Low: chain, High: chain + 1})
			d.Root = chain + 2
			if want := end.Low == 1; valid(d) != want {
				t.Fatal("the test's diagram is not as meant")
			}
			agree(t, d)
		}
	}
}

// P2.1, B2.
func TestConstantsAndVar(t *testing.T) {
	if d := diagram.Constant(false); d.Root != 0 || len(d.Nodes) != 0 {
		t.Errorf("Constant(false) = %v", d)
	}
	if d := diagram.Constant(true); d.Root != 1 || len(d.Nodes) != 0 {
		t.Errorf("Constant(true) = %v", d)
	}
	for v := range 64 {
		d, e := diagram.Var(v)
		expect(t, "Var", api.Diagram{Nodes: []api.Branch{{Var: v, Low: 0, High: 1}}, Root: 2}, d, e)
	}
	for _, v := range []int{-1, 64, 1 << 32, -1 << 63, 1<<63 - 1} {
		d, e := diagram.Var(v)
		refuse(t, "Var", api.ErrArg, d, e)
	}
}

// P2.1, B10: Same compares numbers, of whatever diagrams.
func TestSame(t *testing.T) {
	all := append(broken(), api.Diagram{}, api.Diagram{Root: 1}, full(t), large(t))
	for i, a := range all {
		for j, b := range all {
			b = api.Diagram{Nodes: slices.Clone(b.Nodes), Root: b.Root}
			if got := diagram.Same(a, b); got != (i == j) {
				t.Errorf("Same of diagrams %d and %d: %v", i, j, got)
			}
		}
	}
	if !diagram.Same(api.Diagram{Nodes: []api.Branch{}}, api.Diagram{}) {
		t.Error("no branches and nil branches differ")
	}
	for _, b := range []api.Branch{{Var: 6, Low: 2, High: 3}, {Var: 5, Low: 4, High: 3}, {Var: 5, Low: 2, High: 4}} {
		if diagram.Same(api.Diagram{Nodes: []api.Branch{{Var: 5, Low: 2, High: 3}}}, api.Diagram{Nodes: []api.Branch{b}}) {
			t.Errorf("equal to %v", b)
		}
	}
}

// The chapter's examples.
func TestExamples(t *testing.T) {
	m := must(t)
	zero, one := m(diagram.Var(0)), m(diagram.Var(1))
	not, and, or, xor := m(diagram.Not(zero)), m(diagram.And(zero, one)), m(diagram.Or(zero, one)), m(diagram.Xor(zero, one))
	for _, x := range []struct {
		name string
		got  api.Diagram
		want []api.Branch
		root int
	}{
		{"Var", zero, []api.Branch{{Var: 0, Low: 0, High: 1}}, 2},
		{"Not", not, []api.Branch{{Var: 0, Low: 1, High: 0}}, 2},
		{"And", and, []api.Branch{{Var: 1, Low: 0, High: 1}, {Var: 0, Low: 0, High: 2}}, 3},
		{"Or", or, []api.Branch{{Var: 1, Low: 0, High: 1}, {Var: 0, Low: 2, High: 1}}, 3},
		{"Xor", xor, []api.Branch{{Var: 1, Low: 0, High: 1}, {Var: 1, Low: 1, High: 0}, {Var: 0, Low: 2, High: 3}}, 4},
		{"Restrict to true", m(diagram.Restrict(or, 0, true)), nil, 1},
		{"Restrict to false", m(diagram.Restrict(or, 0, false)), one.Nodes, 2},
		{"Exists", m(diagram.Exists(and, 1)), zero.Nodes, 2},
	} {
		expect(t, x.name, api.Diagram{Nodes: x.want, Root: x.root}, x.got, api.OK)
	}
	checkCount(t, or, 2, "3", api.OK)
	checkCount(t, or, 3, "6", api.OK)
	checkCount(t, or, 1, "", api.ErrArg)
	for _, x := range []struct {
		set  api.Diagram
		want api.Config
	}{{xor, 1}, {and, 3}, {not, 0}} {
		if c, ok := diagram.Least(x.set); c != x.want || !ok {
			t.Errorf("Least(%v) = %d, %v, want %d", x.set, c, ok, x.want)
		}
	}
	if s := diagram.Support(m(diagram.Xor(zero, m(diagram.Var(5))))); !slices.Equal(s, []int{0, 5}) {
		t.Errorf("Support = %v", s)
	}
}
