package sound_test

import (
	"slices"
	"strconv"
	"testing"

	"koine/api"
	"koine/diagram"
	"koine/sound"
)

func all() api.Diagram { return diagram.Constant(true) }

// is returns the configurations with a condition, or without it.
func is(v int, value bool) api.Diagram {
	d, _ := diagram.Var(v)
	if !value {
		d, _ = diagram.Not(d)
	}
	return d
}

// empty returns a forest of nodes between the same gaps, whose roots are all nodes. The kids of a node are given with the sets in which they are kids.
func empty(kids ...map[int]api.Diagram) api.Forest {
	var f api.Forest
	for i, list := range kids {
		n := api.ForestNode{Copy: i, Alternatives: []api.Alternative{{If: all()}}}
		for k := range kids {
			if d, ok := list[k]; ok {
				n.Alternatives = append(n.Alternatives, api.Alternative{Production: k + 1, Kids: []api.Kid{{Node: k, Token: -1}}, If: d})
			}
		}
		f.Nodes = append(f.Nodes, n)
		f.Roots = append(f.Roots, api.Root{Node: i, If: all()})
	}
	return f
}

// order returns the nodes of the steps of a forest, and those of each knot as a list of its own in the order of their numbers.
func order(t *testing.T, f api.Forest, backward bool) string {
	t.Helper()
	if !sound.Formed(f) {
		t.Fatal("the forest is not well-formed")
	}
	steps, e := sound.Steps(f)
	if e != api.OK {
		return "error " + strconv.Itoa(int(e))
	}
	text := ""
	if backward {
		slices.Reverse(steps)
	}
	for _, s := range steps {
		if backward {
			s = s.Reversed()
		}
		var knot []int
		s.Settle(func(i int, again func(i int)) {
			if s.Knots(i) {
				knot = append(knot, i)
			} else {
				text += " " + strconv.Itoa(i)
			}
		})
		slices.Sort(knot)
		for k, i := range knot {
			text += []string{" (", "-"}[min(k, 1)] + strconv.Itoa(i)
		}
		if len(knot) > 0 {
			text += ")"
		}
	}
	return text
}

// The nodes are in an order in which kids come first, but for those of knots.
func TestOrder(t *testing.T) {
	a, b := is(0, true), is(0, false)
	for i, c := range []struct {
		f        api.Forest
		forward  string
		backward string
	}{
		{api.Forest{}, "", ""},
		{empty(nil), " 0", " 0"},
		{empty(map[int]api.Diagram{1: all()}, map[int]api.Diagram{2: all()}, nil), " 2 1 0", " 0 1 2"},
		{empty(nil, map[int]api.Diagram{0: all()}, map[int]api.Diagram{1: all()}), " 0 1 2", " 2 1 0"},
		{empty(map[int]api.Diagram{1: a}, map[int]api.Diagram{0: b}), " (0-1)", " (0-1)"},
		// Node 3 leads to the knot, and belongs to it; node 2 does not.
		{empty(map[int]api.Diagram{1: a}, map[int]api.Diagram{0: b, 2: all()}, nil, map[int]api.Diagram{0: all()}), " 2 (0-1-3)", " (0-1-3) 2"},
		{empty(map[int]api.Diagram{0: a}), "error 110", "error 110"},
		{empty(map[int]api.Diagram{1: a}, map[int]api.Diagram{0: a}), "error 110", "error 110"},
	} {
		if got := order(t, c.f, false); got != c.forward {
			t.Errorf("case %d: the order is%s, want%s", i, got, c.forward)
		}
		if got := order(t, c.f, true); got != c.backward {
			t.Errorf("case %d: the opposite order is%s, want%s", i, got, c.backward)
		}
	}
}

// The nodes of a knot are visited again if a visit asks for it, each at most once in the time until it is visited.
func TestAgain(t *testing.T) {
	f := empty(map[int]api.Diagram{1: is(0, true)}, map[int]api.Diagram{2: is(1, true)}, map[int]api.Diagram{0: is(0, false)})
	steps, e := sound.Steps(f)
	if e != api.OK || len(steps) != 1 || !slices.Equal(steps[0].Above(1), []int{0}) || steps[0].Knots(3) || steps[0].Knots(-1) {
		t.Fatalf("%d steps, error %d", len(steps), e)
	}
	visits := []int{0, 0, 0}
	steps[0].Settle(func(i int, again func(i int)) {
		visits[i]++
		if i == 0 && visits[0] < 4 {
			for range 3 {
				again(0)
				again(2)
			}
		}
	})
	if !slices.Equal(visits, []int{4, 1, 2}) {
		t.Errorf("visits: %v", visits)
	}
}

// Alternatives are ordered by their productions and kids.
func TestCompareAlternatives(t *testing.T) {
	leaf := func(token, from, to int) api.Kid { return api.Kid{Node: -1, Token: token, From: from, To: to} }
	list := []api.Alternative{
		{Production: 1}, {Production: 2},
		{Production: 2, Kids: []api.Kid{leaf(1, 0, 1)}},
		{Production: 2, Kids: []api.Kid{leaf(1, 0, 1), leaf(0, 1, 2)}},
		{Production: 2, Kids: []api.Kid{{Node: 3, Token: -1, To: 2}}},
		{Production: 2, Kids: []api.Kid{{Node: 4, Token: -1, To: 2}}},
		{Production: 2, Kids: []api.Kid{leaf(0, 0, 2)}},
		{Production: 2, Kids: []api.Kid{leaf(0, 1, 2)}},
	}
	for i, a := range list {
		for k, b := range list {
			if got := sound.CompareAlternatives(a, b); got < 0 != (i < k) || got > 0 != (i > k) {
				t.Errorf("%v and %v: %d", a, b, got)
			}
		}
	}
}
