package priority_test

import (
	"slices"
	"testing"

	"koine/api"
)

// invalidGrammars returns grammars that differ from arithmetic in one thing each that is not valid, with the error of facts.Check.
func invalidGrammars() map[string]struct {
	g api.Grammar
	e api.Errno
} {
	list := map[string]struct {
		g api.Grammar
		e api.Errno
	}{}
	add := func(name string, e api.Errno, change func(g *api.Grammar)) {
		g := copyOf(arithmetic())
		change(&g)
		list[name] = struct {
			g api.Grammar
			e api.Errno
		}{g, e}
	}
	add("too many conditions", api.ErrLarge, func(g *api.Grammar) { g.Conditions = names(65) })
	add("a long right side", api.ErrLarge, func(g *api.Grammar) { g.Productions[1].Right = make([]api.Symbol, 17) })
	add("too many filters", api.ErrLarge, func(g *api.Grammar) { g.Filters = slices.Repeat([]api.Filter{child(1, 0, 0, all())}, 4097) })
	add("a condition that is no name", api.ErrFamily, func(g *api.Grammar) { g.Conditions = []string{"true"} })
	add("no configuration", api.ErrFamily, func(g *api.Grammar) { g.Family = none() })
	add("a family that is no set", api.ErrFamily, func(g *api.Grammar) { g.Family = api.Diagram{Root: 2} })
	add("a token without a name", api.ErrToken, func(g *api.Grammar) { g.Tokens[1].Name = "" })
	add("a start symbol that does not exist", api.ErrSymbol, func(g *api.Grammar) { g.Start = 1 })
	add("a left side that does not exist", api.ErrSymbol, func(g *api.Grammar) { g.Productions[1].Left = 1 })
	add("a symbol that does not exist", api.ErrSymbol, func(g *api.Grammar) { g.Productions[1].Right[0].Index = -1 })
	add("two productions of the same name", api.ErrProduction, func(g *api.Grammar) { g.Productions[1].Name = "p0" })
	add("a production that depends on a condition that does not exist", api.ErrProduction, func(g *api.Grammar) { g.Productions[1].If = is(0) })
	add("a production in two levels", api.ErrFilter, func(g *api.Grammar) { g.Levels[1].Productions = []int{2, 1} })
	add("a level of a production that does not exist", api.ErrFilter, func(g *api.Grammar) { g.Levels[1].Productions = []int{5} })
	add("a level with a negative number", api.ErrFilter, func(g *api.Grammar) { g.Levels[1].Productions = []int{-1} })
	add("a level with another Assoc", api.ErrFilter, func(g *api.Grammar) { g.Levels[0].Assoc = 4 })
	add("a level that depends on a condition that does not exist", api.ErrFilter, func(g *api.Grammar) { g.Levels[0].If = is(0) })
	add("a filter of a child that does not exist", api.ErrFilter, func(g *api.Grammar) { g.Filters = []api.Filter{child(1, 3, 0, all())} })
	add("a filter of a token", api.ErrFilter, func(g *api.Grammar) { g.Filters = []api.Filter{spine(1, 1, 0, all())} })
	add("a filter of no parent", api.ErrFilter, func(g *api.Grammar) { g.Filters = []api.Filter{child(-1, 0, 0, all())} })
	add("a filter with a token", api.ErrFilter, func(g *api.Grammar) {
		g.Filters = []api.Filter{child(1, 0, 0, all())}
		g.Filters[0].Tokens = []int{0}
	})
	add("a filter of no kind", api.ErrFilter, func(g *api.Grammar) { g.Filters = []api.Filter{{If: all()}} })
	add("a nonterminal that derives itself", api.ErrCycle, func(g *api.Grammar) {
		g.Productions = append(g.Productions, api.Production{Name: "p5", Right: []api.Symbol{{}}, If: all()})
	})
	return list
}

// TestInvalidGrammars has the error of facts.Check, which is the first one of all (M1 to M4).
func TestInvalidGrammars(t *testing.T) {
	x := treesOf(arithmetic(), 0, "a")[0]
	for name, invalid := range invalidGrammars() {
		if _, e := conflicts(t, invalid.g); e != invalid.e {
			t.Errorf("%s: Conflicts has error %d, want %d", name, e, invalid.e)
		}
		for c, y := range []api.Tree{x, nil} {
			if _, e := violations(t, invalid.g, api.Config(c), y); e != invalid.e {
				t.Errorf("%s: Violations has error %d, want %d", name, e, invalid.e)
			}
		}
		if survives(t, invalid.g, 0, x) {
			t.Errorf("%s: a tree survives", name)
		}
		if got := spineOf(t, invalid.g, x, 0); len(got) > 0 {
			t.Errorf("%s: Spine: %v", name, got)
		}
	}
}

// TestConfigurationsOutside has configurations that do not belong to the family (M2, M3).
func TestConfigurationsOutside(t *testing.T) {
	g := arithmetic()
	g.Conditions, g.Family = names(2), set("A || B")
	x := treesOf(g, 1, "a + a")[0]
	for _, c := range []api.Config{0, 4, 5, 1 << 63} {
		for _, y := range []api.Tree{x, x[1:], nil} {
			if _, e := violations(t, g, c, y); e != api.ErrArg {
				t.Errorf("Violations in %d has error %d", c, e)
			}
			if survives(t, g, c, y) {
				t.Errorf("a tree survives in %d", c)
			}
		}
	}
	for _, c := range []api.Config{1, 2, 3} {
		expectViolations(t, g, c, x)
	}
}

// invalidTrees returns trees that differ from the one of a + - a in one thing each, and whether they are shaped. In the grammar, E = - E and the token - are present with the condition A only.
func invalidTrees() (g api.Grammar, x api.Tree, list map[string]api.Tree, shaped map[string]bool) {
	g = arithmetic()
	g.Conditions = names(1)
	g.Nonterminals = append(g.Nonterminals, "F")
	g.Productions = append(g.Productions, api.Production{Name: "p5", Left: 1, Right: []api.Symbol{{}}, If: all()})
	x = node(2, 0, 4, node(0, 0, 1, leaf(0, 0, 1)), leaf(2, 1, 2), node(3, 2, 4, leaf(3, 2, 3), node(0, 3, 4, leaf(0, 3, 4))))
	list, shaped = map[string]api.Tree{}, map[string]bool{}
	add := func(name string, isShaped bool, y api.Tree) { list[name], shaped[name] = y, isShaped }
	change := func(name string, isShaped bool, i int, n api.Node) {
		y := slices.Clone(x)
		y[i] = n
		add(name, isShaped, y)
	}
	add("nothing", false, nil)
	add("a node that is missing", false, x[:len(x)-1])
	add("a node too much", false, append(slices.Clone(x), x[1]))
	change("a production that does not exist", false, 0, api.Node{Production: 6, Token: -1, To: 4})
	change("a negative production", false, 0, api.Node{Production: -2, Token: -1, To: 4})
	change("a node with a token", false, 0, api.Node{Production: 2, Token: 0, To: 4})
	change("a node that is nothing", false, 0, api.Node{Production: -1, Token: -1, To: 4})
	change("a token that does not exist", false, 2, api.Node{Production: -1, Token: 8, To: 1})
	change("a leaf without bytes", false, 2, api.Node{Production: -1, Token: 0})
	change("a leaf that is not that of the production", false, 2, api.Node{Production: -1, Token: 1, To: 1})
	change("a production with other children", false, 0, api.Node{Production: 1, Token: -1, To: 4})
	change("a negative position", false, 1, api.Node{Token: -1, From: -1, To: 1})
	change("a node that ends before it begins", false, 1, api.Node{Token: -1, From: 1})
	change("a node that begins behind its first child", true, 0, api.Node{Production: 2, Token: -1, From: 1, To: 4})
	change("a node that ends behind its last child", true, 0, api.Node{Production: 2, Token: -1, To: 5})
	change("a child that ends before the next one", true, 3, api.Node{Production: -1, Token: 2, From: 2, To: 3})
	add("a root that is not the start symbol", true, node(5, 0, 4, x))
	add("a leaf", true, leaf(0, 0, 1))
	return g, x, list, shaped
}

// TestInvalidTrees has the error of tree.Shape (M2, M3), and spines of all trees that are shaped (M4).
func TestInvalidTrees(t *testing.T) {
	g, x, list, shaped := invalidTrees()
	expectViolations(t, g, 0, x)
	for name, y := range list {
		if _, e := violations(t, g, 0, y); e != api.ErrTree {
			t.Errorf("%s: Violations has error %d", name, e)
		}
		if survives(t, g, 0, y) {
			t.Errorf("%s: the tree survives", name)
		}
		want := []int{0, 4, 6}
		switch {
		case !shaped[name] || name == "a leaf":
			want = nil
		case len(y) > len(x):
			want = []int{0, 1, 5, 7}
		}
		if got := spineOf(t, g, y, 0); !slices.Equal(got, want) {
			t.Errorf("%s: Spine: %v, want %v", name, got, want)
		}
	}
	for name, change := range map[string]func(g *api.Grammar){
		"production": func(g *api.Grammar) { g.Productions[3].If = is(0) },
		"token":      func(g *api.Grammar) { g.Tokens[3].If = is(0) },
	} {
		h := copyOf(g)
		change(&h)
		expectViolations(t, h, 1, x)
		if _, e := violations(t, h, 0, x); e != api.ErrTree {
			t.Errorf("a %s that is not present: Violations has error %d", name, e)
		}
		if survives(t, h, 0, x) {
			t.Errorf("a %s that is not present: the tree survives", name)
		}
		if got := spineOf(t, h, x, 0); !slices.Equal(got, []int{0, 4, 6}) {
			t.Errorf("a %s that is not present: Spine: %v", name, got)
		}
	}
}
