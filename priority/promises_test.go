package priority_test

import (
	"slices"
	"testing"

	"koine/api"
	"koine/diagram"
	"koine/facts"
	"koine/grammar"
	"koine/tree"
)

// TestConflictsOfAll compares with the chapter's sentences (P13.1, M1).
func TestConflictsOfAll(t *testing.T) {
	shared, partial, spines, empty := 0, 0, 0, 0
	for k := range uint64(3000) {
		r := seeded(k)
		g := r.grammar(int(k % 4))
		if k%3 == 0 {
			g = r.operators(int(k % 4))
		}
		want := conflictsOf(g)
		got, e := conflicts(t, g)
		if e != api.OK || !slices.EqualFunc(got, want, sameConflict) {
			t.Fatalf("%d: Conflicts: %v, error %d, want %v", k, got, e, want)
		}
		for _, f := range want {
			if !diagram.Same(f.If, g.Family) {
				partial++
			}
			if f.Kind == api.FilterSpine {
				spines++
			}
			declared := 0
			for _, d := range g.Filters {
				if d.Kind == f.Kind && d.Parent == f.Parent && d.At == f.At && d.Child == f.Child && !diagram.Same(d.If, f.If) {
					declared++
				}
			}
			if declared > 0 {
				shared++
			}
		}
		if len(want) == 0 {
			empty++
		}
	}
	if shared < 500 || partial < 2000 || spines < 3000 || empty < 100 {
		t.Errorf("only %d conflicts of several filters, %d in a part of the family, %d of spines, %d grammars without conflicts", shared, partial, spines, empty)
	}
}

// TestViolationsOfAll compares with the chapter's sentences (P13.1, M2, M3).
func TestViolationsOfAll(t *testing.T) {
	steps, survivors := map[int]int{}, 0
	for k := range uint64(2000) {
		r := seeded(k)
		g := r.grammar(int(k % 4))
		if k%3 > 0 {
			g = r.operators(int(k % 4))
		}
		list := conflictsOf(g)
		for _, c := range family(g) {
			x := r.tree(g, c, g.Start, 30)
			want := violationsOf(g, list, c, x)
			expectViolations(t, g, c, x, want...)
			for _, v := range want {
				steps[v.Step]++
			}
			if len(want) == 0 {
				survivors++
			}
		}
		if t.Failed() {
			t.Fatalf("seed %d", k)
		}
	}
	if steps[api.StepChild] < 2000 || steps[api.StepSpine] < 2000 || survivors < 700 || len(steps) != 2 {
		t.Errorf("only %v violations by steps, and %d survivors", steps, survivors)
	}
}

// TestConfigurations is P13.2.
func TestConfigurations(t *testing.T) {
	fewer, found := 0, 0
	for k := range uint64(600) {
		r := seeded(k)
		g := r.operators(1 + int(k%3))
		list := sure(conflicts(t, g))
		for _, c := range family(g) {
			at := sure(grammar.At(g, c))
			var numbers []int // of the conflicts in c
			var want []api.Filter
			for i, f := range list {
				if diagram.Holds(f.If, c) {
					numbers = append(numbers, i)
					f.If = all()
					want = append(want, f)
				}
			}
			expectConflicts(t, at, want...)
			if len(want) < len(list) {
				fewer++
			}
			x := r.tree(g, c, g.Start, 30)
			of := sure(violations(t, at, 0, x))
			for i := range of {
				of[i].Rule = numbers[of[i].Rule]
				found++
			}
			expectViolations(t, g, c, x, of...)
		}
		if t.Failed() {
			t.Fatalf("seed %d", k)
		}
	}
	if fewer < 500 || found < 1000 {
		t.Errorf("only %d configurations without a conflict, %d violations", fewer, found)
	}
}

// grouped returns the tree of operands and operators between them that P13.3 describes, in the grammar of TestOperators, or false if there is none. level has the level of each operator.
func grouped(g api.Grammar, level map[int]int, operators []int, gap int) (api.Tree, bool) {
	if len(operators) == 0 {
		return node(0, gap, gap+2, leaf(0, gap, gap+1)), true
	}
	// The root is an operator of the latest level.
	latest := 0
	for _, o := range operators {
		latest = max(latest, level[o])
	}
	var places []int
	for i, o := range operators {
		if level[o] == latest {
			places = append(places, i)
		}
	}
	root := places[0]
	switch g.Levels[latest].Assoc {
	case api.AssocLeft:
		root = places[len(places)-1]
	case api.AssocNever:
		if len(places) > 1 {
			return nil, false
		}
	}
	left, ok := grouped(g, level, operators[:root], gap)
	middle := gap + 4*root + 2
	right, also := grouped(g, level, operators[root+1:], middle+2)
	return node(operators[root], gap, gap+4*len(operators)+2, left, leaf(operators[root], middle, middle+1), right), ok && also
}

// TestOperators is P13.3. Each operator is the token with the number of its production.
func TestOperators(t *testing.T) {
	unique, nothing := 0, 0
	for k := range uint64(600) {
		r := seeded(k)
		g := grammarOf(1, words("a", "+", "-", "*", "/"), "E = a", "E = E + E", "E = E - E", "E = E * E", "E = E / E")
		level := map[int]int{}
		list := r.Perm(4)
		for len(list) > 0 {
			n := 1 + r.IntN(len(list))
			l := api.Level{Assoc: pick(r, api.AssocLeft, api.AssocRight, api.AssocLeft, api.AssocRight, api.AssocNever), If: all()}
			for _, i := range list[:n] {
				l.Productions = append(l.Productions, 1+i)
				level[1+i] = len(g.Levels)
			}
			g.Levels, list = append(g.Levels, l), list[n:]
		}
		text, operators := "a ", []int{}
		for range int(k % 7) {
			o := 1 + r.IntN(4)
			text += string(" +-*/"[o]) + " a "
			operators = append(operators, o)
		}
		var want []api.Tree
		if x, ok := grouped(g, level, operators, 0); ok {
			want = []api.Tree{x}
			unique++
		} else {
			nothing++
		}
		var got []api.Tree
		for _, x := range treesOf(g, 1, text) {
			if survives(t, g, 1, x) {
				got = append(got, x)
			}
		}
		// The last gap is the end of the text, behind the line feed.
		for _, x := range want {
			for i, n := range x {
				if n.Production >= 0 && n.To == len(text) {
					x[i].To++
				}
			}
		}
		if !slices.EqualFunc(got, want, slices.Equal) {
			t.Fatalf("%d: of %q with the levels %v the trees %v survive, want %v", k, text, g.Levels, got, want)
		}
	}
	if unique < 300 || nothing < 60 {
		t.Errorf("only %d texts with a tree, %d without one", unique, nothing)
	}
}

// from returns a grammar with the symbol of a node of a tree as its start symbol.
func from(g api.Grammar, n api.Node) api.Grammar {
	g.Start = g.Productions[n.Production].Left
	return g
}

// TestSubtrees is the first part of P13.4.
func TestSubtrees(t *testing.T) {
	is := map[bool]int{}
	for k := range uint64(500) {
		r := seeded(k)
		g := r.grammar(2)
		if k%2 == 0 {
			g = r.operators(2)
		}
		for _, c := range family(g) {
			x := r.tree(g, c, g.Start, 12)
			all := true
			for i, n := range x {
				if n.Production >= 0 {
					part := sure(tree.Subtree(g, x, i))
					list, e := violations(t, from(g, n), c, part)
					all = all && e == api.OK && !slices.ContainsFunc(list, func(v api.Violation) bool { return v.Node == 0 })
				}
			}
			if survives(t, g, c, x) != all {
				t.Fatalf("%d: Survives of %v: %v, but %v by its nodes", k, x, !all, all)
			}
			is[all]++
		}
	}
	if is[true] < 300 || is[false] < 300 {
		t.Errorf("only %v trees", is)
	}
}

// TestReplacement is the second part of P13.4.
func TestReplacement(t *testing.T) {
	is := map[bool]int{}
	for k := range uint64(250) {
		r := seeded(k)
		g := r.operators(1)
		c := pick(r, family(g)...)
		var survivors []api.Tree
		for range 20 {
			if x := r.tree(g, c, g.Start, 12); survives(t, g, c, x) {
				survivors = append(survivors, x)
			}
		}
		for _, x := range survivors {
			i := r.IntN(len(x))
			if x[i].Production < 0 {
				continue
			}
			for _, y := range survivors {
				whole := placed(g, sure(tree.Replace(g, x, i, y)))
				list, e := violations(t, g, c, whole)
				if e != api.OK {
					t.Fatalf("%d: error %d of %v", k, e, whole)
				}
				for _, v := range list {
					behind, ok := tree.Behind(g, whole, v.Node)
					if !ok || v.Node >= i || behind <= i {
						t.Fatalf("%d: the violation %v of %v is not above %d", k, v, whole, i)
					}
				}
				is[len(list) == 0]++
			}
		}
	}
	if is[true] < 500 || is[false] < 200 {
		t.Errorf("only %v trees", is)
	}
}

// placed returns a shaped tree with consistent positions: each leaf has one byte.
func placed(g api.Grammar, x api.Tree) api.Tree {
	gap := 0
	var put func(n *nest)
	put = func(n *nest) {
		n.From = gap
		if n.isLeaf() {
			gap++
		}
		for i := range n.kids {
			put(&n.kids[i])
		}
		n.To = gap
	}
	n := nestOf(g, x)
	put(&n)
	return n.tree()
}

// TestMonotonicity is P13.5.
func TestMonotonicity(t *testing.T) {
	was := map[[2]bool]int{}
	for k := range uint64(1500) {
		r := seeded(k)
		g := r.operators(2)
		free := r.Perm(len(g.Productions))
		for _, l := range g.Levels {
			free = slices.DeleteFunc(free, func(p int) bool { return slices.Contains(l.Productions, p) })
		}
		more := copyOf(g)
		for len(free) > 0 && r.IntN(4) > 0 {
			n := 1 + r.IntN(len(free))
			more.Levels = append(more.Levels, api.Level{Productions: free[:n], Assoc: r.IntN(4), If: r.presence(g)})
			free = free[n:]
		}
		for range r.IntN(3) {
			more.Filters = append(more.Filters, r.filter(g))
		}
		if e := facts.Check(more); e != api.OK {
			t.Fatalf("%d: error %d", k, e)
		}
		for _, c := range family(g) {
			x := r.tree(g, c, g.Start, 8)
			before, after := survives(t, g, c, x), survives(t, more, c, x)
			if after && !before {
				t.Fatalf("%d: more levels and filters let %v survive", k, x)
			}
			was[[2]bool{before, after}]++
		}
	}
	if was[[2]bool{true, true}] < 500 || was[[2]bool{true, false}] < 100 || was[[2]bool{false, false}] < 500 {
		t.Errorf("only %v trees", was)
	}
}

// TestSpines is P13.6, and compares with the chapter's definition (P13.1, M4).
func TestSpines(t *testing.T) {
	lengths := map[int]int{}
	for k := range uint64(300) {
		r := seeded(k)
		g := r.grammar(1)
		if k%2 == 0 {
			g = r.operators(1)
		}
		c := pick(r, family(g)...)
		x := r.tree(g, c, g.Start, 30)
		nestOf(g, x).all(func(n nest) {
			var want []int
			if !n.isLeaf() {
				for _, m := range n.spine() {
					want = append(want, m.index)
				}
			}
			got := spineOf(t, g, x, n.index)
			if !slices.Equal(got, want) {
				t.Fatalf("%d: Spine of node %d of %v: %v, want %v", k, n.index, x, got, want)
			}
			lengths[min(len(got), 4)]++
			for i, m := range got {
				if x[m].To != x[n.index].To {
					t.Fatalf("%d: node %d of the spine of node %d ends at %d", k, m, n.index, x[m].To)
				}
				if i > 0 {
					kids, ok := tree.Kids(g, x, got[i-1])
					if !ok || m <= got[i-1] || kids[len(kids)-1] != m {
						t.Fatalf("%d: node %d is not the last child of node %d", k, m, got[i-1])
					}
				}
			}
		})
	}
	for n := range 5 {
		if lengths[n] < 100 {
			t.Errorf("only %d spines of %d nodes", lengths[n], n)
		}
	}
}
