package priority_test

import (
	"slices"
	"strconv"
	"testing"

	"koine/api"
	"koine/diagram"
	"koine/priority"
	"koine/tree"
)

// binary returns a grammar with n conditions, the operand a, and as many binary operators as given, from production 1 on, which all have the same token.
func binary(n, operators int) api.Grammar {
	g := grammarOf(n, words("a", "+"), "E = a")
	for i := range operators {
		g.Productions = append(g.Productions, api.Production{Name: "o" + strconv.Itoa(i), Right: []api.Symbol{{}, {Token: true, Index: 1}, {}}, If: all()})
	}
	return g
}

// numbers returns the numbers from one to another one.
func numbers(from, to int) []int {
	var list []int
	for i := from; i <= to; i++ {
		list = append(list, i)
	}
	return list
}

// TestMostConflicts has numbers of conflicts around MaxFilters (M1, M2, M3).
func TestMostConflicts(t *testing.T) {
	g := binary(2, 45)
	g.Levels = []api.Level{{Productions: numbers(1, 45), Assoc: api.AssocNever, If: set("A || B")}}
	expect := func(name string, n int) {
		t.Helper()
		list, e := conflicts(t, g)
		if e != api.OK || len(list) != n {
			t.Errorf("%s: %d conflicts, error %d, want %d", name, len(list), e, n)
		}
	}
	expect("levels", 4050)
	for p := range 45 {
		g.Filters = append(g.Filters, child(1+p, 2, 0, is(1)))
	}
	expect("filters", 4095)
	g.Filters = append(g.Filters, spine(1, 0, 1, is(0)))
	expect("most", 4096)
	// Those that agree are one, and those that are never present are none.
	g.Filters = append(g.Filters, spine(1, 0, 1, is(1)), child(1, 2, 0, is(0)), child(3, 0, 4, all()), spine(1, 0, 0, none()))
	expect("filters that agree", 4096)
	x := node(0, 0, 2, leaf(0, 0, 1))
	if !survives(t, g, 3, x) {
		t.Error("with as many conflicts as there can be, no tree survives")
	}
	// No configuration has all of these conflicts.
	g.Filters = append(g.Filters, spine(1, 2, 1, set("A && !B")))
	for _, tree := range []api.Tree{x, nil} {
		for _, c := range []api.Config{3, 4} {
			if _, e := violations(t, g, c, tree); e != api.ErrLarge {
				t.Errorf("one more: Violations has error %d", e)
			}
			if survives(t, g, c, tree) {
				t.Error("one more: a tree survives")
			}
		}
	}
	if _, e := conflicts(t, g); e != api.ErrLarge {
		t.Errorf("one more: Conflicts has error %d", e)
	}
	if got := spineOf(t, g, x, 0); !slices.Equal(got, []int{0}) {
		t.Errorf("one more: Spine: %v", got)
	}
	g.Family = set("!A || B")
	expect("one more outside the family", 4096)
	g.Levels[0].If = none()
	g.Family = all()
	expect("filters alone", 48)
}

// TestMostFilters has as many filters as there can be, all of them conflicts (M1).
func TestMostFilters(t *testing.T) {
	g := binary(0, 45)
	for p := range 45 {
		for q := range 45 {
			g.Filters = append(g.Filters, child(1+p, 0, 1+q, all()), spine(1+p, 2, 1+q, all()))
		}
	}
	for p := range 46 {
		g.Filters = append(g.Filters, child(1, 2, p, all()))
	}
	list, e := conflicts(t, g)
	if e != api.OK || len(list) != 4096 {
		t.Errorf("%d conflicts, error %d", len(list), e)
	}
	// The level would have one conflict more.
	g.Levels = []api.Level{level(api.AssocLeft, 1)}
	expectCount := func(want int, e api.Errno) {
		t.Helper()
		if list, got := conflicts(t, g); got != e || len(list) != want {
			t.Errorf("%d conflicts, error %d, want %d, %d", len(list), got, want, e)
		}
	}
	expectCount(4096, api.OK)
	g.Levels = []api.Level{level(api.AssocLeft, 2)}
	expectCount(0, api.ErrLarge)
}

// TestManyLevels has as many levels as there can be, each of which is present in configurations of its own (M1).
func TestManyLevels(t *testing.T) {
	g := binary(11, 1999)
	var want []api.Filter
	for i := range 2000 {
		l := api.Level{Productions: []int{i}, Assoc: api.AssocNever, If: single(api.Config(i), 11)}
		g.Levels = append(g.Levels, l)
		if i > 0 {
			want = append(want, child(i, 0, i, l.If), child(i, 2, i, l.If))
		}
	}
	expectConflicts(t, g, want...)
	g.Levels[7].If = all()
	if _, e := conflicts(t, g); e != api.ErrLarge {
		t.Errorf("error %d", e)
	}
	g.Levels = []api.Level{{Productions: numbers(0, 1999), Assoc: api.AssocLeft, If: all()}}
	if _, e := conflicts(t, g); e != api.ErrLarge {
		t.Errorf("error %d", e)
	}
	g.Levels[0].If = none()
	expectConflicts(t, g)
}

// random returns a random set of configurations of n conditions.
func (g generator) random(n int) api.Diagram {
	var made func(v int) api.Diagram
	made = func(v int) api.Diagram {
		if v == n {
			return diagram.Constant(g.IntN(2) == 0)
		}
		return sure(diagram.Choose(is(v), made(v+1), made(v+1)))
	}
	return made(0)
}

// TestFourteenConditions has sets that are as large as those of 14 conditions can be (M1, R9).
func TestFourteenConditions(t *testing.T) {
	r := seeded(1)
	sets := make([]api.Diagram, 5)
	for i := range sets {
		sets[i] = r.random(14)
	}
	g := binary(14, 2)
	g.Family = sets[0]
	g.Levels = []api.Level{{Productions: []int{1}, If: sets[1]}, {Productions: []int{2}, If: sets[2]}}
	g.Filters = []api.Filter{child(1, 0, 2, sets[3]), spine(1, 0, 2, sets[4])}
	both := and(sets[1], sets[2])
	if len(sets[1].Nodes) < 1000 {
		t.Errorf("only %d branches", len(sets[1].Nodes))
	}
	expectConflicts(t, g, child(1, 0, 2, and(or(both, sets[3]), sets[0])), child(1, 2, 2, and(both, sets[0])), spine(1, 0, 2, and(sets[4], sets[0])))
}

// pairs returns the configurations in which each condition from one to another one is that 32 numbers behind it.
func pairs(from, to int) api.Diagram {
	d := all()
	for v := from; v <= to; v++ {
		d = and(d, not(sure(diagram.Xor(is(v), is(v+32)))))
	}
	return d
}

// TestManyConditions has sets of more than 14 conditions that are too large, or not (M1, M2, R9).
func TestManyConditions(t *testing.T) {
	low, high := pairs(0, 8), pairs(9, 17)
	g := binary(64, 2)
	x := node(0, 0, 2, leaf(0, 0, 1))
	expectLarge := func(name string, e api.Errno) {
		t.Helper()
		if _, got := conflicts(t, g); got != e {
			t.Errorf("%s: Conflicts has error %d", name, got)
		}
		if _, got := violations(t, g, 0, x); got != e {
			t.Errorf("%s: Violations has error %d", name, got)
		}
	}
	g.Levels = []api.Level{{Productions: []int{1}, If: low}, {Productions: []int{2}, If: low}}
	expectConflicts(t, g, child(1, 0, 2, low), child(1, 2, 2, low))
	g.Family = is(40)
	expectConflicts(t, g, child(1, 0, 2, and(low, is(40))), child(1, 2, 2, and(low, is(40))))
	g.Family = all()
	g.Levels[1].If = high
	expectLarge("two levels", api.ErrLarge)
	g.Levels[1].If = low
	g.Family = high
	expectLarge("a level and the family", api.ErrLarge)
	g.Levels = nil
	g.Filters = []api.Filter{spine(1, 2, 2, low)}
	expectLarge("a filter and the family", api.ErrLarge)
	g.Family = all()
	g.Filters = append(g.Filters, spine(1, 2, 2, high))
	expectLarge("two filters", api.ErrLarge)
	// The sets of different conflicts have nothing to do with one another.
	g.Filters[1].At = 0
	expectConflicts(t, g, spine(1, 0, 2, high), spine(1, 2, 2, low))
	expectLarge("filters that do not agree", api.OK)
	// Levels of which no productions compete need no common set.
	g.Levels = []api.Level{{Productions: []int{0}, If: high}, {Productions: []int{1}, If: low}}
	expectConflicts(t, g, spine(1, 0, 2, high), spine(1, 2, 2, low))
}

// signs returns the tree of n minus signs before an operand, in arithmetic.
func signs(n int) api.Tree {
	x := make(api.Tree, 0, 2*n+2)
	for i := range n {
		x = append(x, api.Node{Production: 3, Token: -1, From: i, To: n + 1}, leaf(3, i, i+1)[0])
	}
	return append(x, node(0, n, n+1, leaf(0, n, n+1))...)
}

// TestLargestTree has trees with as many nodes as there can be, and with one more (M2, M3, M4). Copying them would take long.
func TestLargestTree(t *testing.T) {
	const n = api.MaxForest/2 - 1
	g := arithmetic()
	g.Filters = []api.Filter{spine(3, 1, 0, all()), spine(3, 1, 2, all()), child(3, 1, 0, all())}
	x := signs(n)
	list, e := priority.Violations(g, 0, x)
	// The conflicts (3, 1, 0) have the numbers 4, of the child, and 5, of the spine.
	if e != api.OK || len(list) != n+1 || list[0] != (api.Violation{Step: api.StepChild, Node: 2 * (n - 1), Rule: 4}) {
		t.Fatalf("%d violations, error %d", len(list), e)
	}
	for i, v := range list[1:] {
		if v != (api.Violation{Step: api.StepSpine, Node: 2 * i, Rule: 5}) {
			t.Fatalf("violation %d: %v", i, v)
		}
	}
	spine := priority.Spine(g, x, 2)
	if len(spine) != n {
		t.Fatalf("Spine has %d nodes", len(spine))
	}
	for i, k := range spine {
		if k != 2*i+2 {
			t.Fatalf("node %d of the spine: %d", i, k)
		}
	}
	g.Filters = nil
	if !priority.Survives(g, 0, x) {
		t.Error("the tree does not survive")
	}
	more := signs(n + 1)
	if _, e := priority.Violations(g, 0, more); e != api.ErrTree {
		t.Errorf("more nodes: error %d", e)
	}
	if got := priority.Spine(g, more, 0); len(got) > 0 || priority.Survives(g, 0, more) {
		t.Errorf("more nodes: a spine of %d nodes", len(got))
	}
}

// TestDeepOnTheLeft has a tree whose spines are short, as its nodes lead down on the left (M2, M4).
func TestDeepOnTheLeft(t *testing.T) {
	const n = 400000
	g := arithmetic()
	g.Filters = []api.Filter{spine(2, 0, 0, all())}
	x := make(api.Tree, n)
	for i := range x {
		x[i] = api.Node{Production: 2, Token: -1, To: 2*(n-i) + 1}
	}
	x = append(x, node(0, 0, 1, leaf(0, 0, 1))...)
	for i := range n {
		x = append(append(x, leaf(2, 2*i+1, 2*i+2)...), node(0, 2*i+2, 2*i+3, leaf(0, 2*i+2, 2*i+3))...)
	}
	if e := tree.Shape(g, 0, x); e != api.OK {
		t.Fatalf("error %d", e)
	}
	list, e := priority.Violations(g, 0, x)
	if e != api.OK || len(list) != n {
		t.Fatalf("%d violations, error %d", len(list), e)
	}
	for i, v := range list {
		if v != (api.Violation{Step: api.StepSpine, Node: i, Rule: 4}) {
			t.Fatalf("violation %d: %v", i, v)
		}
	}
	if got := priority.Spine(g, x, 0); !slices.Equal(got, []int{0, len(x) - 2}) {
		t.Errorf("Spine: %v", got)
	}
}
