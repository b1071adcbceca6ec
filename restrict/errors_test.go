package restrict_test

import (
	"math"
	"slices"
	"testing"

	"koine/api"
)

// valid returns a plain text with a remark and one of its trees, which violates the filter of the grammar.
func valid() (api.Grammar, api.Plain, api.Tree) {
	g := blocks()
	g.Conditions = names(1)
	text := "x {}\nif x\n x"
	return g, plainOf(g, 0, text), treeOf(g, 0, []int{1, 0, 2, 3, 0, 2}, text)
}

// invalidGrammars returns grammars that differ from blocks in one thing each that is not valid, with the error of facts.Check.
func invalidGrammars() map[string]struct {
	g api.Grammar
	e api.Errno
} {
	list := map[string]struct {
		g api.Grammar
		e api.Errno
	}{}
	add := func(name string, e api.Errno, change func(g *api.Grammar)) {
		g := copyOf(blocks())
		change(&g)
		list[name] = struct {
			g api.Grammar
			e api.Errno
		}{g, e}
	}
	add("too many conditions", api.ErrLarge, func(g *api.Grammar) { g.Conditions = names(65) })
	add("a long right side", api.ErrLarge, func(g *api.Grammar) { g.Productions[1].Right = make([]api.Symbol, 17) })
	add("too many constraints", api.ErrLarge, func(g *api.Grammar) { g.Productions[1].Layout = slices.Repeat([]api.Constraint{align(0, 1)}, 17) })
	add("too many filters", api.ErrLarge, func(g *api.Grammar) { g.Filters = slices.Repeat(g.Filters, 4097) })
	add("a condition that is no name", api.ErrFamily, func(g *api.Grammar) { g.Conditions = []string{"true"} })
	add("no configuration", api.ErrFamily, func(g *api.Grammar) { g.Family = none() })
	add("a family that is no set", api.ErrFamily, func(g *api.Grammar) { g.Family = api.Diagram{Root: 2} })
	add("a token without a name", api.ErrToken, func(g *api.Grammar) { g.Tokens[1].Name = "" })
	add("a start symbol that does not exist", api.ErrSymbol, func(g *api.Grammar) { g.Start = 2 })
	add("a left side that does not exist", api.ErrSymbol, func(g *api.Grammar) { g.Productions[1].Left = 2 })
	add("a symbol that does not exist", api.ErrSymbol, func(g *api.Grammar) { g.Productions[1].Right[0].Index = -1 })
	add("two productions of the same name", api.ErrProduction, func(g *api.Grammar) { g.Productions[1].Name = "p0" })
	add("a production that depends on a condition that does not exist", api.ErrProduction, func(g *api.Grammar) { g.Productions[1].If = is(0) })
	add("a constraint of no kind", api.ErrProduction, func(g *api.Grammar) { g.Productions[1].Layout[0].Kind = 0 })
	add("a constraint of another kind", api.ErrProduction, func(g *api.Grammar) { g.Productions[1].Layout[0].Kind = 5 })
	add("a constraint of a child that does not exist", api.ErrProduction, func(g *api.Grammar) { g.Productions[1].Layout[0].A = 2 })
	add("a constraint of a negative child", api.ErrProduction, func(g *api.Grammar) { g.Productions[1].Layout[0].B = -1 })
	add("a constraint of one child with another one", api.ErrProduction, func(g *api.Grammar) { g.Productions[3].Layout[1].B = 1 })
	add("a constraint without children", api.ErrProduction, func(g *api.Grammar) {
		g.Productions = append(g.Productions, api.Production{Name: "none", Layout: []api.Constraint{offside(0)}, If: all()})
	})
	add("a filter of a nonterminal that does not exist", api.ErrFilter, func(g *api.Grammar) { g.Filters[0].Left = 2 })
	add("a filter of a negative nonterminal", api.ErrFilter, func(g *api.Grammar) { g.Filters[0].Left = -1 })
	add("a filter without tokens", api.ErrFilter, func(g *api.Grammar) { g.Filters[0].Tokens = nil })
	add("a filter of a token that does not exist", api.ErrFilter, func(g *api.Grammar) { g.Filters[0].Tokens = []int{0, 5} })
	add("a filter of a negative token", api.ErrFilter, func(g *api.Grammar) { g.Filters[0].Tokens = []int{-1} })
	add("a filter of a layout token", api.ErrFilter, func(g *api.Grammar) { g.Filters[0].Tokens = []int{2} })
	add("a filter of a remark token", api.ErrFilter, func(g *api.Grammar) { g.Filters[0].Tokens = []int{4} })
	add("a filter of tokens in another order", api.ErrFilter, func(g *api.Grammar) { g.Filters[0].Tokens = []int{1, 0} })
	add("a filter of the same token twice", api.ErrFilter, func(g *api.Grammar) { g.Filters[0].Tokens = []int{1, 1} })
	add("a filter with a production", api.ErrFilter, func(g *api.Grammar) { g.Filters[0].Child = 1 })
	add("a filter that depends on a condition that does not exist", api.ErrFilter, func(g *api.Grammar) { g.Filters[0].If = is(0) })
	add("a filter of no kind", api.ErrFilter, func(g *api.Grammar) { g.Filters[0].Kind = 0 })
	add("a level of a production that does not exist", api.ErrFilter, func(g *api.Grammar) { g.Levels = []api.Level{{Productions: []int{4}, If: all()}} })
	add("a nonterminal that derives itself", api.ErrCycle, func(g *api.Grammar) {
		g.Productions = append(g.Productions, api.Production{Name: "p4", Left: 1, Right: []api.Symbol{{}}, If: all()})
	})
	return list
}

// TestInvalidGrammars has the error of facts.Check, which is the first one of all (N1, N2).
func TestInvalidGrammars(t *testing.T) {
	_, p, x := valid()
	for name, invalid := range invalidGrammars() {
		expectError(t, name, invalid.g, 0, p, x, invalid.e)
		expectError(t, name, invalid.g, 1, api.Plain{}, nil, invalid.e)
	}
}

// TestConfigurationsOutside has configurations that do not belong to the family, which is the next error (N1, N2).
func TestConfigurationsOutside(t *testing.T) {
	g, p, x := valid()
	g.Conditions, g.Family = names(2), set("A || B")
	for _, c := range []api.Config{0, 4, 5, 1 << 63} {
		expectError(t, "outside", g, c, p, x, api.ErrArg)
		expectError(t, "outside", g, c, api.Plain{}, nil, api.ErrArg)
	}
	for _, c := range []api.Config{1, 2, 3} {
		expectViolations(t, g, c, p, x, follows(2, 0))
	}
}

// TestInvalidTexts has plain texts that differ from a valid one in one thing each, and are not usable or not that of the tree (N1, N2).
func TestInvalidTexts(t *testing.T) {
	g, p, x := valid()
	expectViolations(t, g, 0, p, x, follows(2, 0))
	for name, change := range map[string]func(p *api.Plain){
		"a text that is stuck":                  func(p *api.Plain) { p.Stuck = p.End },
		"a text that is stuck at its beginning": func(p *api.Plain) { p.Stuck = 0 },
		"another Stuck":                         func(p *api.Plain) { p.Stuck = -2 },
		"a negative end":                        func(p *api.Plain) { p.End = -1 },
		"an end within the last word":           func(p *api.Plain) { p.End = p.Words[3].From },
		"an end behind that of the tree":        func(p *api.Plain) { p.End++ },
		"no words":                              func(p *api.Plain) { p.Words = nil },
		"a word less":                           func(p *api.Plain) { p.Words = p.Words[:3] },
		"a word more": func(p *api.Plain) {
			p.Words = append(p.Words, api.Word{From: p.End - 1, To: p.End, Tokens: []int{0}})
		},
		"a word that begins before the text":         func(p *api.Plain) { p.Words[0].From = -1 },
		"a word that begins elsewhere":               func(p *api.Plain) { p.Words[1].From++ },
		"a word that ends elsewhere":                 func(p *api.Plain) { p.Words[3].To++ },
		"a word without bytes":                       func(p *api.Plain) { p.Words[0].To = 0 },
		"a word that ends behind the next one":       func(p *api.Plain) { p.Words[1].To = p.Words[2].To },
		"words in another order":                     func(p *api.Plain) { p.Words[2], p.Words[3] = p.Words[3], p.Words[2] },
		"a word without tokens":                      func(p *api.Plain) { p.Words[0].Tokens = nil },
		"a word of another token":                    func(p *api.Plain) { p.Words[0].Tokens = []int{1} },
		"a word of a token that does not exist":      func(p *api.Plain) { p.Words[0].Tokens = []int{0, 5} },
		"a word of a token that is far away":         func(p *api.Plain) { p.Words[0].Tokens = []int{0, math.MaxInt64} },
		"a word of a negative token":                 func(p *api.Plain) { p.Words[0].Tokens = []int{-1, 0} },
		"a word of a layout token":                   func(p *api.Plain) { p.Words[0].Tokens = []int{0, 2} },
		"a word of a remark token":                   func(p *api.Plain) { p.Words[0].Tokens = []int{0, 4} },
		"a word of tokens in another order":          func(p *api.Plain) { p.Words[0].Tokens = []int{1, 0} },
		"a word of the same token twice":             func(p *api.Plain) { p.Words[0].Tokens = []int{0, 0} },
		"a remark that begins before the text":       func(p *api.Plain) { p.Remarks[0].From = -1 },
		"a remark that begins within a word":         func(p *api.Plain) { p.Remarks[0].From = 0 },
		"a remark that ends within a word":           func(p *api.Plain) { p.Remarks[0].To = p.Words[1].To },
		"a remark without bytes":                     func(p *api.Plain) { p.Remarks[0].To = p.Remarks[0].From },
		"a remark that ends behind the text":         func(p *api.Plain) { p.Remarks[0].To = p.End + 1 },
		"a remark of an ordinary token":              func(p *api.Plain) { p.Remarks[0].Tokens = []int{0} },
		"a remark of a token that does not exist":    func(p *api.Plain) { p.Remarks[0].Tokens = []int{5} },
		"the same remark twice":                      func(p *api.Plain) { p.Remarks = append(p.Remarks, p.Remarks[0]) },
		"a word where there is a remark, as another": func(p *api.Plain) { p.Remarks = p.Words[:1] },
	} {
		q := copyOf(p)
		change(&q)
		expectError(t, name, g, 0, q, x, api.ErrTree)
	}
	// Columns, beginnings of lines and the absence of remarks do not make a text invalid.
	for i := range p.Words {
		p.Words[i].Column, p.Words[i].First = -i, true
	}
	p.Remarks = nil
	expectViolations(t, g, 0, p, x, follows(2, 0), lays(0, 0), lays(4, 0))
}

// TestInvalidTrees has trees that differ from a valid one in one thing each (N1, N2).
func TestInvalidTrees(t *testing.T) {
	g, p, x := valid()
	g.Nonterminals = append(g.Nonterminals, "F")
	g.Productions = append(g.Productions, api.Production{Name: "p4", Left: 2, Right: []api.Symbol{{}}, If: all()})
	add := func(name string, y api.Tree) {
		t.Helper()
		expectError(t, name, g, 0, p, y, api.ErrTree)
	}
	change := func(name string, i int, change func(n *api.Node)) {
		t.Helper()
		y := slices.Clone(x)
		change(&y[i])
		add(name, y)
	}
	// The nodes are 0: B = B I, 1: B = I, 2: I = x, 3: the first x, 4: I = if x B, 5: if, 6: x, 7: B = I, 8: I = x, 9: x.
	expectViolations(t, g, 0, p, x, follows(2, 0))
	add("nothing", nil)
	add("a node that is missing", x[:len(x)-1])
	add("a node too much", append(slices.Clone(x), x[9]))
	add("a leaf", x[3:4])
	add("a root that is not the start symbol", append(api.Tree{{Production: 4, Token: -1, To: p.End}}, x...))
	add("a part of the text", x[1:4])
	change("a production that does not exist", 0, func(n *api.Node) { n.Production = 5 })
	change("a negative production", 0, func(n *api.Node) { n.Production = -2 })
	change("a production of another nonterminal", 2, func(n *api.Node) { n.Production = 0 })
	change("a production with other children", 0, func(n *api.Node) { n.Production = 0 })
	change("a node with a token", 0, func(n *api.Node) { n.Token = 0 })
	change("a node that is nothing", 0, func(n *api.Node) { n.Production = -1 })
	change("a token that does not exist", 3, func(n *api.Node) { n.Token = 5 })
	change("a token that is not that of the production", 3, func(n *api.Node) { n.Token = 1 })
	change("a leaf without bytes", 3, func(n *api.Node) { n.To = n.From })
	change("a leaf that is shorter than its word", 5, func(n *api.Node) { n.To-- })
	change("a leaf that begins behind its word's beginning", 5, func(n *api.Node) { n.From++ })
	change("a negative position", 0, func(n *api.Node) { n.From = -1 })
	change("a node that begins behind its first child", 0, func(n *api.Node) { n.From = 1 })
	change("a node that ends behind its last child", 0, func(n *api.Node) { n.To++ })
	change("a node that ends before its gap", 2, func(n *api.Node) { n.To = 1 })
	change("a node that ends before its children", 4, func(n *api.Node) { n.To-- })
	y := slices.Clone(x)
	y[1].To, y[2].To = 1, 1
	add("nodes that end where a word ends", y)
}

// TestAbsent has trees with a production or a token that is not present in a configuration (N1, N2).
func TestAbsent(t *testing.T) {
	g, p, x := valid()
	for name, change := range map[string]func(g *api.Grammar){
		"production": func(g *api.Grammar) { g.Productions[3].If = is(0) },
		"token":      func(g *api.Grammar) { g.Tokens[1].If = is(0) },
	} {
		h := copyOf(g)
		change(&h)
		expectViolations(t, h, 1, p, x, follows(2, 0))
		expectError(t, "a "+name+" that is not present", h, 0, p, x, api.ErrTree)
	}
}

// TestAnything has arguments that have nothing to do with one another (R1).
func TestAnything(t *testing.T) {
	accepted := 0
	for k := range uint64(2000) {
		r := seeded(k)
		number := func() int { return pick(r, -2, -1, 0, 1, 2, 3, 7, math.MinInt64, math.MaxInt64) }
		word := func() api.Word {
			return api.Word{From: number(), To: number(), Column: number(), First: r.IntN(2) == 0, Tokens: []int{number()}[:r.IntN(2)]}
		}
		g := r.grammar(1)
		p, x := r.tree(g, family(g)[0], 5)
		for range r.IntN(4) {
			switch i, n := r.IntN(len(x)), number(); r.IntN(8) {
			case 0:
				x[i].Production = n
			case 1:
				x[i].Token = n
			case 2:
				x[i].From = n
			case 3:
				x[i].To = n
			case 4:
				x = slices.Insert(x, i, api.Node{Production: number(), Token: number(), From: number(), To: number()})
			case 5:
				p.Words = slices.Insert(p.Words, r.IntN(len(p.Words)+1), word())
			case 6:
				p.Remarks = append(p.Remarks, word())
			case 7:
				p.End = n
			}
		}
		if _, e := violations(t, g, api.Config(r.IntN(3)), p, x); e == api.OK {
			accepted++
		} else if e != api.ErrTree && e != api.ErrArg {
			t.Fatalf("%d: error %d", k, e)
		}
		between(t, p, number(), number())
	}
	if accepted < 200 || accepted > 1500 {
		t.Errorf("%d trees are accepted", accepted)
	}
}
