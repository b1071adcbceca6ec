package priority_test

import (
	"slices"
	"testing"

	"koine/api"
)

// TestExampleConflicts is example 1 of the chapter (M1).
func TestExampleConflicts(t *testing.T) {
	expectConflicts(t, arithmetic(), child(1, 0, 2, all()), child(1, 2, 1, all()), child(1, 2, 2, all()), child(2, 2, 2, all()))
}

// TestExampleViolations is example 2 of the chapter (M2, M3).
func TestExampleViolations(t *testing.T) {
	g := arithmetic()
	list := treesOf(g, 0, "a + a * a")
	if len(list) != 2 {
		t.Fatalf("%d trees", len(list))
	}
	for _, x := range list {
		if x[0].Production == 2 {
			expectViolations(t, g, 0, x)
		} else {
			expectViolations(t, g, 0, x, api.Violation{Step: api.StepChild, Node: 0, Rule: 0})
		}
	}
}

// survivors returns the trees of a text that survive.
func survivors(t *testing.T, g api.Grammar, c api.Config, text string) []api.Tree {
	t.Helper()
	var list []api.Tree
	for _, x := range treesOf(g, c, text) {
		if survives(t, g, c, x) {
			list = append(list, x)
		}
	}
	return list
}

// productions returns the productions of a tree in preorder.
func productions(x api.Tree) []int {
	var list []int
	for _, n := range x {
		if n.Production >= 0 {
			list = append(list, n.Production)
		}
	}
	return list
}

// TestExampleSpine is example 3 of the chapter (M2, M3).
func TestExampleSpine(t *testing.T) {
	g := arithmetic()
	g.Filters = []api.Filter{spine(1, 0, 3, all())}
	list := survivors(t, g, 0, "- a * a")
	if len(list) != 1 || !slices.Equal(productions(list[0]), []int{3, 1, 0, 0}) {
		t.Errorf("the trees %v survive", list)
	}
	expectConflicts(t, g, child(1, 0, 2, all()), child(1, 2, 1, all()), child(1, 2, 2, all()), child(2, 2, 2, all()), spine(1, 0, 3, all()))
	for _, x := range treesOf(g, 0, "a * - a * a") {
		// The root is the second *, and - a is the second child of the first one.
		if slices.Equal(productions(x), []int{1, 1, 0, 3, 0, 0}) {
			expectViolations(t, g, 0, x, api.Violation{Step: api.StepSpine, Node: 0, Rule: 4})
			return
		}
	}
	t.Error("the tree is missing")
}

// TestExampleNodes is example 4 of the chapter (M4).
func TestExampleNodes(t *testing.T) {
	g := arithmetic()
	for _, x := range treesOf(g, 0, "a + - a") {
		if got := spineOf(t, g, x, 0); !slices.Equal(got, []int{0, 4, 6}) || x[0].Production != 2 || x[4].Production != 3 || x[6].Production != 0 {
			t.Errorf("Spine of %v: %v", x, got)
		}
	}
}

// TestExampleOfTheSystem is the example of the document for the conflicts of E = x, E = E + E, E = E * E, E = ( E ).
func TestExampleOfTheSystem(t *testing.T) {
	g := grammarOf(1, words("x", "+", "*", "(", ")"), "E = x", "E = E + E", "E = E * E", "E = ( E )")
	g.Levels = []api.Level{level(api.AssocLeft, 2), level(api.AssocLeft, 1)}
	expectConflicts(t, g, child(1, 2, 1, all()), child(2, 0, 1, all()), child(2, 2, 1, all()), child(2, 2, 2, all()))
	if n, m := len(treesOf(g, 1, "x + x + x + x")), len(survivors(t, g, 1, "x + x + x + x")); n != 5 || m != 1 {
		t.Errorf("%d of %d trees survive", m, n)
	}
	for _, x := range treesOf(g, 1, "x + x * x") {
		if x[0].Production == 2 {
			expectViolations(t, g, 1, x, api.Violation{Step: api.StepChild, Node: 0, Rule: 1})
		}
	}
}

// TestAssociativity has all values of Assoc, within a level and with a later one (M1).
func TestAssociativity(t *testing.T) {
	g := grammarOf(0, words("a", "+", "-", "*"), "E = a", "E = E + E", "E = E - E", "E = E * E")
	later := func(p int) []api.Filter { return []api.Filter{child(p, 0, 3, all()), child(p, 2, 3, all())} }
	for assoc, at := range map[int][]int{api.AssocNone: nil, api.AssocLeft: {2}, api.AssocRight: {0}, api.AssocNever: {0, 2}} {
		g.Levels = []api.Level{level(assoc, 2, 1), level(api.AssocNone, 3)}
		var want []api.Filter
		for _, p := range []int{1, 2} {
			for _, i := range []int{0, 2} {
				if slices.Contains(at, i) {
					want = append(want, child(p, i, 1, all()), child(p, i, 2, all()))
				}
				want = append(want, later(p)[i/2])
			}
		}
		expectConflicts(t, g, want...)
		// The Assoc of the later level forbids nothing in an earlier one.
		g.Levels = []api.Level{level(api.AssocNone, 3, 0), level(assoc)}
		expectConflicts(t, g)
	}
}

// TestEnds has productions that compete at the first symbol only, at the last one only, at both, and at none (M1).
func TestEnds(t *testing.T) {
	tokens := words("a", "+", "-", "!")
	for line, at := range map[string][]int{
		"E = E - E": {0, 2},
		"E = - E":   {0},
		"E = E !":   {2},
		"E = E E":   {0, 2},
		"E = - F":   {0},
		"E = F !":   {2},
		"E = F F":   {0, 2},
		"E = - E !": nil,
		"E = ":      nil,
		"E = -":     nil,
		"E = F":     {0, 2},
		"F = E - E": nil,
	} {
		var want []api.Filter
		for _, i := range at {
			want = append(want, child(1, i, 2, all()))
		}
		g := grammarOf(0, tokens, "E = a", "E = E + E", line, "F = a")
		g.Levels = []api.Level{level(api.AssocNone, 1), level(api.AssocNever, 2)}
		got, e := conflicts(t, g)
		got = slices.DeleteFunc(got, func(f api.Filter) bool { return f.Parent != 1 })
		if e != api.OK || !slices.EqualFunc(got, want, sameConflict) {
			t.Errorf("%s: %v, error %d, want %v", line, got, e, want)
		}
	}
}

// TestMiddle has a production whose inner symbols are not its ends, and others whose first or last symbol is a token (M1).
func TestMiddle(t *testing.T) {
	g := grammarOf(0, words("a", "?", ":", "-", "!"), "E = a", "E = E ? E : E", "E = - E", "E = E !", "E = - E E !")
	g.Levels = []api.Level{level(api.AssocNone, 1, 4), level(api.AssocNever, 2, 3)}
	expectConflicts(t, g, child(1, 0, 2, all()), child(1, 4, 3, all()), child(2, 1, 3, all()), child(3, 0, 2, all()))
	g.Levels = []api.Level{level(api.AssocNever, 4, 3, 2, 1)}
	expectConflicts(t, g,
		child(1, 0, 1, all()), child(1, 0, 2, all()), child(1, 4, 1, all()), child(1, 4, 3, all()),
		child(2, 1, 1, all()), child(2, 1, 3, all()),
		child(3, 0, 1, all()), child(3, 0, 2, all()))
}

// TestOneSymbol has parents whose only symbol is the first one and the last one (M1).
func TestOneSymbol(t *testing.T) {
	both := func(assoc int) bool { return assoc != api.AssocNone }
	for line, is := range map[string]func(assoc int) bool{
		"F = F + F": both,
		"F = - F":   func(assoc int) bool { return assoc == api.AssocRight || assoc == api.AssocNever },
		"F = F !":   func(assoc int) bool { return assoc == api.AssocLeft || assoc == api.AssocNever },
		"F = - a":   func(int) bool { return false },
	} {
		g := grammarOf(0, words("a", "+", "-", "!"), "E = F", "F = a", line)
		for assoc := range 4 {
			var want []api.Filter
			if is(assoc) {
				want = []api.Filter{child(0, 0, 2, all())}
			}
			g.Levels = []api.Level{{Productions: []int{0, 2}, Assoc: assoc, If: all()}}
			got, e := conflicts(t, g)
			got = slices.DeleteFunc(got, func(f api.Filter) bool { return f.Parent != 0 })
			if e != api.OK || !slices.EqualFunc(got, want, sameConflict) {
				t.Errorf("%s with %d: %v, error %d, want %v", line, assoc, got, e, want)
			}
		}
		// With a later level it is one conflict, even if the production competes twice.
		g.Levels = []api.Level{level(api.AssocNone, 0), level(api.AssocNone, 2)}
		if line == "F = - a" {
			expectConflicts(t, g)
		} else {
			expectConflicts(t, g, child(0, 0, 2, all()))
		}
	}
}

// TestPresence has levels and filters whose sets depend on the configuration, or are empty in the family (M1).
func TestPresence(t *testing.T) {
	g := grammarOf(3, words("a", "+", "-"), "E = a", "E = E + E :: B", "E = - E :: false")
	g.Levels = []api.Level{{Productions: []int{1}, If: is(0)}, {Productions: []int{2}, If: is(1)}}
	// Where the productions are present plays no part.
	expectConflicts(t, g, child(1, 0, 2, set("A && B")))
	g.Family = set("!B || C")
	expectConflicts(t, g, child(1, 0, 2, set("A && B && C")))
	g.Filters = []api.Filter{child(1, 2, 2, is(2)), spine(1, 2, 2, set("B && !C")), spine(1, 0, 0, none()), spine(1, 0, 1, not(is(1)))}
	expectConflicts(t, g, child(1, 0, 2, set("A && B && C")), child(1, 2, 2, set("C")), spine(1, 0, 1, set("!B")))
	g.Family = set("!B && !C")
	expectConflicts(t, g, spine(1, 0, 1, set("!B && !C")))
	g.Levels[0].If = none()
	g.Filters = nil
	expectConflicts(t, g)
}

// TestUnion has filters that agree in Kind, Parent, At and Child, with levels and with one another (M1).
func TestUnion(t *testing.T) {
	g := grammarOf(3, words("a", "+", "-"), "E = a", "E = E + E", "E = - E")
	g.Levels = []api.Level{{Productions: []int{1, 2}, Assoc: api.AssocLeft, If: is(0)}}
	expectConflicts(t, g, child(1, 2, 1, is(0)), child(2, 1, 1, is(0)))
	g.Filters = []api.Filter{
		spine(2, 1, 1, is(2)),
		child(2, 1, 1, is(1)),
		child(1, 2, 1, set("A && B")),
		spine(2, 1, 1, set("!C && B")),
		child(2, 1, 1, set("C")),
		child(1, 0, 1, none()),
	}
	expectConflicts(t, g, child(1, 2, 1, is(0)), child(2, 1, 1, set("A || B || C")), spine(2, 1, 1, set("B || C")))
	g.Family = set("!C")
	expectConflicts(t, g, child(1, 2, 1, set("A && !C")), child(2, 1, 1, set("(A || B) && !C")), spine(2, 1, 1, set("B && !C")))
	g.Family = set("!C && !B")
	expectConflicts(t, g, child(1, 2, 1, set("A && !B && !C")), child(2, 1, 1, set("A && !B && !C")))
}

// TestOrder has conflicts that differ in one field after the other (M1).
func TestOrder(t *testing.T) {
	g := grammarOf(0, words("a", "+"), "E = a", "E = E + E", "E = E E E E E E E E E E E")
	g.Filters = []api.Filter{
		spine(1, 0, 0, all()), child(2, 10, 0, all()), child(2, 9, 2, all()), child(2, 9, 1, all()), child(2, 10, 1, all()),
		child(1, 2, 2, all()), spine(1, 0, 2, all()), spine(2, 2, 0, all()), spine(1, 2, 1, all()), child(1, 0, 1, all()),
	}
	want := []api.Filter{
		child(1, 0, 1, all()), child(1, 2, 2, all()), child(2, 9, 1, all()), child(2, 9, 2, all()), child(2, 10, 0, all()), child(2, 10, 1, all()),
		spine(1, 0, 0, all()), spine(1, 0, 2, all()), spine(1, 2, 1, all()), spine(2, 2, 0, all()),
	}
	expectConflicts(t, g, want...)
	slices.Reverse(g.Filters)
	expectConflicts(t, g, want...)
}

// TestOtherFilters has filters of the other kinds, which are no conflicts (M1).
func TestOtherFilters(t *testing.T) {
	g := grammarOf(0, words("a", "+"), "E = a", "E = E + E")
	g.Tokens = append(g.Tokens, api.Token{Name: "n", Pattern: api.Pattern{{Kind: api.PatternRange, Lo: 'a', Hi: 'z'}}, Sample: "n", If: all()})
	g.Filters = []api.Filter{
		{Kind: api.FilterFollow, Tokens: []int{1}, If: all()},
		{Kind: api.FilterPrecede, Tokens: []int{0, 1}, If: all()},
		{Kind: api.FilterReserve, Token: 4, Tokens: []int{0}, If: all()},
	}
	expectConflicts(t, g)
	for _, x := range treesOf(g, 0, "a + a + a") {
		expectViolations(t, g, 0, x)
	}
}

// TestEveryChild has declared filters at each child of a production (M2).
func TestEveryChild(t *testing.T) {
	g := grammarOf(0, words("a", "-"), "E = a", "E = E - E E - E", "E = - E")
	// Two of the children are - - a, - a.
	word := func(at int) api.Tree { return node(0, at, at+1, leaf(0, at, at+1)) }
	minus := func(at int) api.Tree { return node(2, at, at+2, leaf(1, at, at+1), word(at+1)) }
	double := func(at int) api.Tree { return node(2, at, at+3, leaf(1, at, at+1), minus(at+1)) }
	x := node(1, 0, 11, double(0), leaf(1, 3, 4), minus(4), double(6), leaf(1, 9, 10), word(10))
	for i, want := range []struct {
		at          int
		child       int
		isChild, is bool // on the spine
	}{{0, 2, true, true}, {2, 2, true, true}, {3, 2, true, true}, {5, 2, false, false}, {0, 0, false, true}, {2, 0, false, true}, {3, 0, false, true}, {5, 0, true, true}, {0, 1, false, false}, {5, 1, false, false}} {
		for kind, is := range map[int]bool{api.FilterChild: want.isChild, api.FilterSpine: want.is} {
			g.Filters = []api.Filter{{Kind: kind, Parent: 1, At: want.at, Child: want.child, If: all()}}
			var list []api.Violation
			if is {
				list = []api.Violation{{Step: map[int]int{api.FilterChild: api.StepChild, api.FilterSpine: api.StepSpine}[kind]}}
			}
			expectViolations(t, g, 0, x, list...)
			if t.Failed() {
				t.Fatalf("case %d with kind %d", i, kind)
			}
		}
	}
}

// TestSpineEnds has spines that end at leaves and at nodes without children (M2, M4).
func TestSpineEnds(t *testing.T) {
	g := grammarOf(0, words("a", "+", "!"), "E = E + F", "E = a", "F = ", "F = F !", "F = ! F")
	g.Filters = []api.Filter{spine(0, 0, 0, all()), spine(0, 0, 1, all()), spine(0, 2, 2, all()), spine(0, 2, 3, all()), spine(4, 1, 2, all())}
	violation := func(node, rule int) api.Violation { return api.Violation{Step: api.StepSpine, Node: node, Rule: rule} }
	word, plus := node(1, 0, 1, leaf(0, 0, 1)), leaf(1, 1, 2)
	for _, test := range []struct {
		x      api.Tree
		spines [][]int
		want   []api.Violation
	}{
		{node(0, 0, 2, word, plus, node(2, 2, 2)), [][]int{{0, 4}, {1}, nil, nil, {4}}, []api.Violation{violation(0, 1), violation(0, 2)}},
		// The spine of F = F ! ends there, as the last child is a leaf.
		{
			node(0, 0, 3, word, plus, node(3, 2, 3, node(2, 2, 2), leaf(2, 2, 3))),
			[][]int{{0, 4}, {1}, nil, nil, {4}, {5}, nil},
			[]api.Violation{violation(0, 1), violation(0, 3)},
		},
		{
			node(0, 0, 3, word, plus, node(4, 2, 3, leaf(2, 2, 3), node(2, 3, 3))),
			[][]int{{0, 4, 6}, {1}, nil, nil, {4, 6}, nil, {6}},
			[]api.Violation{violation(0, 1), violation(0, 2), violation(4, 4)},
		},
	} {
		expectViolations(t, g, 0, test.x, test.want...)
		for i, want := range test.spines {
			if got := spineOf(t, g, test.x, i); !slices.Equal(got, want) {
				t.Errorf("Spine of node %d of %v: %v, want %v", i, test.x, got, want)
			}
		}
	}
}

// TestSeveral has nodes that violate several conflicts, and conflicts that several nodes violate, in the order of Step, Node and Rule (M2).
func TestSeveral(t *testing.T) {
	g := grammarOf(1, words("a", "+", "-"), "E = a", "E = E + E", "E = - E")
	g.Levels = []api.Level{level(api.AssocNever, 2, 1)}
	g.Filters = []api.Filter{spine(1, 0, 2, all()), spine(2, 1, 2, is(0)), child(2, 1, 0, all()), spine(2, 1, 0, all())}
	expectConflicts(t, g,
		child(1, 0, 1, all()), child(1, 0, 2, all()), child(1, 2, 1, all()),
		child(2, 1, 0, all()), child(2, 1, 1, all()),
		spine(1, 0, 2, all()), spine(2, 1, 0, all()), spine(2, 1, 2, is(0)))
	// (- - a) + (a + a)
	x := node(1, 0, 7,
		node(2, 0, 3, leaf(2, 0, 1), node(2, 1, 3, leaf(2, 1, 2), node(0, 2, 3, leaf(0, 2, 3)))),
		leaf(1, 3, 4),
		node(1, 4, 7, node(0, 4, 5, leaf(0, 4, 5)), leaf(1, 5, 6), node(0, 6, 7, leaf(0, 6, 7))))
	always := []api.Violation{
		{Step: api.StepChild, Node: 0, Rule: 1}, {Step: api.StepChild, Node: 0, Rule: 2}, {Step: api.StepChild, Node: 3, Rule: 3},
		{Step: api.StepSpine, Node: 0, Rule: 5}, {Step: api.StepSpine, Node: 1, Rule: 6},
	}
	expectViolations(t, g, 0, x, append(slices.Clone(always), api.Violation{Step: api.StepSpine, Node: 3, Rule: 6})...)
	expectViolations(t, g, 1, x, append(always, api.Violation{Step: api.StepSpine, Node: 1, Rule: 7}, api.Violation{Step: api.StepSpine, Node: 3, Rule: 6})...)
}

// TestNoNode has numbers that are no index of a node, and leaves (M4).
func TestNoNode(t *testing.T) {
	g := arithmetic()
	x := treesOf(g, 0, "a")[0]
	for i, want := range map[int][]int{0: {0}, 1: nil, 2: nil, 3: nil, -1: nil, -1 << 63: nil, 1<<63 - 1: nil} {
		if got := spineOf(t, g, x, i); !slices.Equal(got, want) {
			t.Errorf("Spine of %d: %v, want %v", i, got, want)
		}
	}
	if got := spineOf(t, g, leaf(0, 0, 1), 0); len(got) > 0 {
		t.Errorf("Spine of a tree that is a leaf: %v", got)
	}
}
