package grammar_test

import (
	"fmt"
	"math"
	"math/rand/v2"
	"slices"
	"strconv"
	"strings"
	"testing"

	"koine/api"
	"koine/diagram"
	"koine/grammar"
)

// A damage changes the grammar rich; the error is what Check then returns, or OK if the change is none.
type damage struct {
	what  string
	e     api.Errno
	apply func(g *api.Grammar)
}

// expectDamages fails unless Check returns for each damage its error.
func expectDamages(t *testing.T, list []damage) {
	t.Helper()
	for _, d := range list {
		g := rich()
		d.apply(&g)
		if want := first(g); want != d.e {
			t.Fatalf("%s: the definition says %v, want %v", d.what, want, d.e)
		}
		expectCheck(t, d.what, g, d.e)
	}
}

// numbers returns a damage for each number that is put somewhere.
func numbers(what string, e api.Errno, apply func(g *api.Grammar, n int), list ...int) []damage {
	var l []damage
	for _, n := range list {
		l = append(l, damage{fmt.Sprint(what, " ", n), e, func(g *api.Grammar) { apply(g, n) }})
	}
	return l
}

// sets returns a damage for each set that does not fit, and for some that do.
func sets(what string, e api.Errno, place func(g *api.Grammar) *api.Diagram) []damage {
	var l []damage
	for i, d := range badSets(3) {
		l = append(l, damage{fmt.Sprint("set ", i, " ", what), e, func(g *api.Grammar) { *place(g) = d }})
	}
	for i, d := range []api.Diagram{all(), is(0), is(2), either(0), sure(diagram.And(is(1), is(2)))} {
		l = append(l, damage{fmt.Sprint("good set ", i, " ", what), api.OK, func(g *api.Grammar) { *place(g) = d }})
	}
	return l
}

// P5.1, E1: the chapter's examples.
func TestCheckExamples(t *testing.T) {
	expectCheck(t, "plain", plain(), api.OK)
	expectCheck(t, "rich", rich(), api.OK)
	for _, d := range []damage{
		{"Start 1", api.ErrSymbol, func(g *api.Grammar) { g.Start = 1 }},
		{"Left -1", api.ErrSymbol, func(g *api.Grammar) { g.Productions[0].Left = -1 }},
		{"no name", api.ErrProduction, func(g *api.Grammar) { g.Productions[0].Name = "" }},
		{"condition true", api.ErrFamily, func(g *api.Grammar) { g.Conditions = []string{"true"} }},
		{"empty family", api.ErrFamily, func(g *api.Grammar) { g.Family = none() }},
		{"literal with sample", api.ErrToken, func(g *api.Grammar) { g.Tokens = []api.Token{{Name: "+", Literal: "+", Sample: "+", If: all()}} }},
		{"wrong sample", api.ErrToken, func(g *api.Grammar) {
			g.Tokens = []api.Token{{Name: "a", Pattern: like("[a-z]([a-z])*"), Sample: "+", If: all()}}
		}},
		{"bracket", api.OK, func(g *api.Grammar) { enclose(g, 0) }},
		{"ranked bracket", api.ErrProduction, func(g *api.Grammar) { enclose(g, 1) }},
		{"level", api.OK, func(g *api.Grammar) { g.Levels = []api.Level{{Productions: []int{0}, If: all()}} }},
		{"two levels", api.ErrFilter, func(g *api.Grammar) {
			g.Levels = []api.Level{{Productions: []int{0}, If: all()}, {Productions: []int{0}, If: all()}}
		}},
		{"zero", api.ErrFamily, func(g *api.Grammar) { *g = api.Grammar{} }},
		{"no nonterminals", api.ErrSymbol, func(g *api.Grammar) { *g = api.Grammar{Family: all()} }},
		{"no productions", api.OK, func(g *api.Grammar) { g.Productions = nil }},
	} {
		g := plain()
		d.apply(&g)
		expectCheck(t, d.what, g, d.e)
	}
}

// enclose gives the first grammar the production S: ( S ) with Bracket.
func enclose(g *api.Grammar, rank int) {
	g.Tokens = []api.Token{{Name: "(", Literal: "(", If: all()}, {Name: ")", Literal: ")", If: all()}}
	g.Productions[0].Right = []api.Symbol{aToken(0), aNonterminal(0), aToken(1)}
	g.Productions[0].Bracket = true
	g.Productions[0].Rank = rank
}

// limits returns the damages by which each list gets a number of elements at its limit, or beyond it.
func limits(beyond int) []damage {
	e := api.OK
	if beyond > 0 {
		e = api.ErrLarge
	}
	return []damage{
		{"conditions", e, func(g *api.Grammar) {
			for i := len(g.Conditions); i < api.MaxConditions+beyond; i++ {
				g.Conditions = append(g.Conditions, "C"+strconv.Itoa(i))
			}
		}},
		{"tokens", e, func(g *api.Grammar) {
			for i := len(g.Tokens); i < api.MaxTokens+beyond; i++ {
				g.Tokens = append(g.Tokens, api.Token{Name: strconv.Itoa(i), Literal: "x", If: is(1)})
			}
		}},
		{"nonterminals", e, func(g *api.Grammar) {
			for i := len(g.Nonterminals); i < api.MaxProductions+beyond; i++ {
				g.Nonterminals = append(g.Nonterminals, strconv.Itoa(i))
			}
		}},
		{"productions", e, func(g *api.Grammar) {
			for i := len(g.Productions); i < api.MaxProductions+beyond; i++ {
				g.Productions = append(g.Productions, api.Production{Name: strconv.Itoa(i), If: is(1)})
			}
		}},
		{"levels", e, func(g *api.Grammar) {
			for i := len(g.Levels); i < api.MaxProductions+beyond; i++ {
				g.Levels = append(g.Levels, api.Level{If: is(1)})
			}
		}},
		{"filters", e, func(g *api.Grammar) {
			for i := len(g.Filters); i < api.MaxFilters+beyond; i++ {
				g.Filters = append(g.Filters, g.Filters[i%5])
			}
		}},
		{"right", e, func(g *api.Grammar) {
			for i := len(g.Productions[4].Right); i < api.MaxSymbols+beyond; i++ {
				g.Productions[4].Right = append(g.Productions[4].Right, aNonterminal(i%3))
			}
		}},
		{"layout", e, func(g *api.Grammar) {
			for i := len(g.Productions[3].Layout); i < api.MaxSymbols+beyond; i++ {
				g.Productions[3].Layout = append(g.Productions[3].Layout, api.Constraint{Kind: api.Offside, A: i % 3})
			}
		}},
	}
}

// P5.1, E1: the limits of the lists.
func TestCheckLimits(t *testing.T) {
	expectDamages(t, limits(0))
	expectDamages(t, limits(1))
	expectDamages(t, limits(1000))
	whole := rich()
	for _, d := range limits(0) {
		d.apply(&whole)
	}
	expectCheck(t, "all lists at their limits", whole, api.OK)
	for _, d := range limits(1) {
		g := whole
		g.Productions = slices.Clone(g.Productions)
		d.apply(&g)
		expectCheck(t, d.what+" beyond the limit", g, api.ErrLarge)
	}
}

// P5.1, E1: the conditions and the family.
func TestCheckFamily(t *testing.T) {
	var l []damage
	for _, name := range []string{"", "true", "false", "A", "_c3", " B", "B ", "1", "1B", "B-", "é", "Bé", "B\x00", "B\n", "\xff", "B@", "B[", "B`", "B{", "B/", "B:", "!B", "@", "[", "`", "{"} {
		l = append(l, damage{"condition " + name, api.ErrFamily, func(g *api.Grammar) { g.Conditions[1] = name }})
	}
	for _, name := range []string{"B", "a", "True", "FALSE", "true_", "_", "__", "z9", "Z0", "_0", "S", "id", strings.Repeat("x", 10000)} {
		l = append(l, damage{"condition " + name, api.OK, func(g *api.Grammar) { g.Conditions[1] = name }})
	}
	l = append(l, sets("of the family", api.ErrFamily, func(g *api.Grammar) *api.Diagram { return &g.Family })...)
	l = append(l,
		damage{"empty family", api.ErrFamily, func(g *api.Grammar) { g.Family = none() }},
		damage{"all conditions", api.OK, func(g *api.Grammar) { g.Conditions = sixtyFour(); g.Family = is(63) }},
		damage{"no conditions, but sets that depend on some", api.ErrFamily, func(g *api.Grammar) { g.Conditions = nil }},
		damage{"a condition too few", api.ErrToken, func(g *api.Grammar) { g.Conditions = g.Conditions[:2] }},
	)
	expectDamages(t, l)
}

// sixtyFour returns names for all conditions.
func sixtyFour() []string {
	var l []string
	for i := range api.MaxConditions {
		l = append(l, "C"+strconv.Itoa(i))
	}
	return l
}

// P5.1, E1: the tokens.
func TestCheckTokens(t *testing.T) {
	l := []damage{
		{"no name", api.ErrToken, func(g *api.Grammar) { g.Tokens[3].Name = "" }},
		{"same name", api.ErrToken, func(g *api.Grammar) { g.Tokens[7].Name = "id" }},
		{"any name", api.OK, func(g *api.Grammar) { g.Tokens[7].Name = "\xff\x00" }},
		{"same literal", api.OK, func(g *api.Grammar) { g.Tokens[3].Literal = "(" }},
		{"any literal", api.OK, func(g *api.Grammar) { g.Tokens[3].Literal = strings.Repeat("\x00é", 1000) }},
		{"literal and pattern", api.ErrToken, func(g *api.Grammar) { g.Tokens[3].Pattern = like("a") }},
		{"literal and pattern and sample", api.ErrToken, func(g *api.Grammar) { g.Tokens[0].Literal = "x" }},
		{"literal and sample", api.ErrToken, func(g *api.Grammar) { g.Tokens[3].Sample = ")" }},
		{"literal of a remark", api.OK, func(g *api.Grammar) { g.Tokens[6].Literal, g.Tokens[6].Pattern = "#", nil }},
		{"literal and pattern of a remark", api.ErrToken, func(g *api.Grammar) { g.Tokens[6].Literal = "#" }},
		{"neither literal nor pattern", api.ErrToken, func(g *api.Grammar) { g.Tokens[3].Literal = "" }},
		{"broken pattern", api.ErrToken, func(g *api.Grammar) { g.Tokens[4].Pattern = api.Pattern{{Kind: 5}} }},
		{"large pattern", api.ErrToken, func(g *api.Grammar) { g.Tokens[4].Pattern = make(api.Pattern, api.MaxNodes+1) }},
		{"pattern of the empty string", api.OK, func(g *api.Grammar) { g.Tokens[4].Pattern = like("()") }},
		{"sample of layout", api.ErrToken, func(g *api.Grammar) { g.Tokens[4].Sample = " " }},
		{"sample of a remark", api.ErrToken, func(g *api.Grammar) { g.Tokens[6].Sample = "#" }},
		{"no sample", api.ErrToken, func(g *api.Grammar) { g.Tokens[0].Sample = "" }},
		{"empty sample that is matched", api.ErrToken, func(g *api.Grammar) { g.Tokens[0].Pattern, g.Tokens[0].Sample = like("a*"), "" }},
		{"sample that is not matched", api.ErrToken, func(g *api.Grammar) { g.Tokens[0].Sample = "X" }},
		{"sample that is matched in part", api.ErrToken, func(g *api.Grammar) { g.Tokens[0].Sample = "x " }},
		{"sample with a match inside", api.ErrToken, func(g *api.Grammar) { g.Tokens[0].Sample = " x" }},
		{"long sample", api.OK, func(g *api.Grammar) { g.Tokens[0].Sample = strings.Repeat("x", 10000) }},
		{"the last token twice", api.ErrToken, func(g *api.Grammar) { g.Tokens = append(g.Tokens, g.Tokens[7]) }},
	}
	l = append(l, numbers("class", api.ErrToken, func(g *api.Grammar, n int) { g.Tokens[5].Class = n }, append(extremes(), 3, 256)...)...)
	l = append(l, numbers("class", api.OK, func(g *api.Grammar, n int) { g.Tokens[5].Class = n }, 0, 1, 2)...)
	for i := range rich().Tokens {
		l = append(l, sets(fmt.Sprint("of token ", i), api.ErrToken, func(g *api.Grammar) *api.Diagram { return &g.Tokens[i].If })...)
	}
	expectDamages(t, l)
}

// P5.1, E1: names are found again in long lists, too.
func TestCheckNames(t *testing.T) {
	for _, n := range []int{2, 15, 16, 17, 18, 40, 256} {
		g := plain()
		for i := range n {
			name := strconv.Itoa(i)
			g.Tokens = append(g.Tokens, api.Token{Name: name, Literal: "x", If: all()})
			g.Nonterminals = append(g.Nonterminals, name)
			g.Productions = append(g.Productions, api.Production{Name: name, If: all()})
			if i < 64 {
				g.Conditions = append(g.Conditions, "C"+name)
			}
		}
		expectCheck(t, "different names", g, api.OK)
		for i := range n {
			for _, j := range []int{i / 2, i - 1} {
				if j < 0 || j == i {
					continue
				}
				for _, x := range []struct {
					place *string
					name  string
					e     api.Errno
				}{
					{&g.Tokens[i].Name, g.Tokens[j].Name, api.ErrToken},
					{&g.Nonterminals[i], g.Nonterminals[j], api.ErrSymbol},
					{&g.Productions[i].Name, g.Productions[j].Name, api.ErrProduction},
					{&g.Conditions[i%len(g.Conditions)], g.Conditions[(i+1)%len(g.Conditions)], api.ErrFamily},
				} {
					old := *x.place
					for _, name := range []string{x.name, ""} {
						*x.place = name
						if e := grammar.Check(g); e != x.e {
							t.Fatalf("element %d of %d with the name %q: %v, want %v", i, n, name, e, x.e)
						}
					}
					*x.place = old
				}
			}
		}
	}
}

// P5.1, E1: the nonterminals and the start.
func TestCheckNonterminals(t *testing.T) {
	l := []damage{
		{"no name", api.ErrSymbol, func(g *api.Grammar) { g.Nonterminals[2] = "" }},
		{"same name", api.ErrSymbol, func(g *api.Grammar) { g.Nonterminals[2] = "S" }},
		{"name of a token", api.OK, func(g *api.Grammar) { g.Nonterminals[2] = "id" }},
		{"any name", api.OK, func(g *api.Grammar) { g.Nonterminals[2] = " \xff" }},
		{"no nonterminals", api.ErrSymbol, func(g *api.Grammar) { *g = api.Grammar{Family: all()} }},
	}
	l = append(l, numbers("start", api.ErrSymbol, func(g *api.Grammar, n int) { g.Start = n }, append(extremes(), 3, 4)...)...)
	l = append(l, numbers("start", api.OK, func(g *api.Grammar, n int) { g.Start = n }, 0, 1, 2)...)
	expectDamages(t, l)
}

// P5.1, E1: the symbols and other fields of productions.
func TestCheckProductions(t *testing.T) {
	l := []damage{
		{"no name", api.ErrProduction, func(g *api.Grammar) { g.Productions[4].Name = "" }},
		{"same name", api.ErrProduction, func(g *api.Grammar) { g.Productions[4].Name = "s" }},
		{"name of a nonterminal", api.OK, func(g *api.Grammar) { g.Productions[4].Name = "S" }},
	}
	left := func(g *api.Grammar, n int) { g.Productions[5].Left = n }
	l = append(l, numbers("left", api.ErrSymbol, left, append(extremes(), 3, 8)...)...)
	l = append(l, numbers("left", api.ErrFilter, left, 0, 1)...) // of the second filter
	token := func(g *api.Grammar, n int) { g.Productions[4].Right[0].Index = n }
	l = append(l, numbers("token", api.ErrSymbol, token, append(extremes(), 4, 5, 6, 8)...)...)
	l = append(l, numbers("token", api.OK, token, 0, 1, 2, 3, 7)...)
	symbol := func(g *api.Grammar, n int) { g.Productions[0].Right[0].Index = n }
	l = append(l, numbers("nonterminal", api.ErrSymbol, symbol, append(extremes(), 3, 7)...)...)
	l = append(l, numbers("nonterminal", api.OK, symbol, 0, 1, 2)...)
	rank := func(g *api.Grammar, n int) { g.Productions[0].Rank = n }
	l = append(l, numbers("rank", api.ErrProduction, rank, -2, 2, math.MinInt, math.MaxInt)...)
	l = append(l, numbers("rank", api.OK, rank, -1, 0, 1)...)
	for i := range rich().Productions {
		l = append(l, sets(fmt.Sprint("of production ", i), api.ErrProduction, func(g *api.Grammar) *api.Diagram { return &g.Productions[i].If })...)
	}
	expectDamages(t, l)
}

// P5.1, E1: layout constraints.
func TestCheckLayout(t *testing.T) {
	kind := func(g *api.Grammar, n int) { g.Productions[3].Layout[2].Kind = n }
	l := numbers("kind", api.ErrProduction, kind, append(extremes(), 0, 5)...)
	l = append(l, numbers("kind", api.ErrProduction, kind, 1)...) // as B is not 0
	l = append(l, numbers("kind", api.OK, kind, 2, 3, 4)...)
	for i := range 4 {
		a := func(g *api.Grammar, n int) { g.Productions[3].Layout[i].A = n }
		b := func(g *api.Grammar, n int) { g.Productions[3].Layout[i].B = n }
		l = append(l, numbers("A", api.ErrProduction, a, append(extremes(), 3, 16)...)...)
		l = append(l, numbers("A", api.OK, a, 0, 1, 2)...)
		l = append(l, numbers("B", api.ErrProduction, b, append(extremes(), 3, 16)...)...)
		e := api.OK
		if i == 0 {
			e = api.ErrProduction
		}
		l = append(l, numbers("B", e, b, 1, 2)...)
		l = append(l, numbers("B", api.OK, b, 0)...)
	}
	l = append(l, damage{"constraint of no children", api.ErrProduction, func(g *api.Grammar) { g.Productions[5].Layout = []api.Constraint{{Kind: api.Offside}} }})
	expectDamages(t, l)
}

// P5.1, E1: scope entries.
func TestCheckScope(t *testing.T) {
	at := func(change func(s *api.Scope, n int)) func(g *api.Grammar, n int) {
		return func(g *api.Grammar, n int) { change(&g.Productions[4].Scope, n) }
	}
	declares := at(func(s *api.Scope, n int) { s.Declares = n })
	uses := at(func(s *api.Scope, n int) { s.Uses = n })
	kind := at(func(s *api.Scope, n int) { s.Kind = n })
	allowed := at(func(s *api.Scope, n int) { s.Allowed = n })
	undeclared := at(func(s *api.Scope, n int) { s.Declares, s.Kind = 0, n })
	unused := at(func(s *api.Scope, n int) { s.Uses, s.Allowed = 0, n })
	var l []damage
	l = append(l, numbers("declares", api.ErrProduction, declares, append(extremes(), 0, 2, 4, 5)...)...)
	l = append(l, numbers("declares", api.OK, declares, 1, 3)...)
	l = append(l, numbers("uses", api.ErrProduction, uses, append(extremes(), 0, 2, 4, 5)...)...)
	l = append(l, numbers("uses", api.OK, uses, 1, 3)...)
	l = append(l, numbers("kind", api.ErrProduction, kind, append(extremes(), 0, 8)...)...)
	l = append(l, numbers("kind", api.OK, kind, 1, 2, 3, 4, 5, 6, 7)...)
	l = append(l, numbers("allowed", api.ErrProduction, allowed, append(extremes(), 256)...)...)
	l = append(l, numbers("allowed", api.OK, allowed, 0, 1, 2, 128, 255)...)
	l = append(l, numbers("kind without declaration", api.ErrProduction, undeclared, append(extremes(), 1, 7)...)...)
	l = append(l, numbers("kind without declaration", api.OK, undeclared, 0)...)
	l = append(l, numbers("allowed without use", api.ErrProduction, unused, append(extremes(), 1, 255)...)...)
	l = append(l, numbers("allowed without use", api.OK, unused, 0)...)
	l = append(l, damage{"opens", api.OK, func(g *api.Grammar) { g.Productions[0].Scope.Opens = true }})
	expectDamages(t, l)
}

// P5.1, E1: bracket productions.
func TestCheckBracket(t *testing.T) {
	change := func(what string, e api.Errno, apply func(p *api.Production)) damage {
		return damage{what, e, func(g *api.Grammar) { apply(&g.Productions[2]) }}
	}
	expectDamages(t, []damage{
		change("the same token twice", api.OK, func(p *api.Production) { p.Right[2] = aToken(2) }),
		change("a token with a pattern", api.OK, func(p *api.Production) { p.Right[2] = aToken(0) }),
		change("another nonterminal", api.ErrProduction, func(p *api.Production) { p.Right[1] = aNonterminal(2) }),
		change("another left side", api.ErrProduction, func(p *api.Production) { p.Left = 2 }),
		change("a token with the number of the nonterminal", api.ErrProduction, func(p *api.Production) { p.Right[1] = aToken(1) }),
		change("a nonterminal first", api.ErrProduction, func(p *api.Production) { p.Right[0] = aNonterminal(2) }),
		change("a nonterminal last", api.ErrProduction, func(p *api.Production) { p.Right[2] = aNonterminal(2) }),
		change("too few symbols", api.ErrProduction, func(p *api.Production) { p.Right = p.Right[:2] }),
		change("no symbols", api.ErrProduction, func(p *api.Production) { p.Right = nil }),
		change("too many symbols", api.ErrProduction, func(p *api.Production) { p.Right = append(p.Right, aToken(3)) }),
		change("preferred", api.ErrProduction, func(p *api.Production) { p.Rank = api.Preferred }),
		change("avoided", api.ErrProduction, func(p *api.Production) { p.Rank = api.Avoided }),
		change("layout", api.ErrProduction, func(p *api.Production) { p.Layout = []api.Constraint{{Kind: api.Align, B: 2}} }),
		change("a scope", api.ErrProduction, func(p *api.Production) { p.Scope.Opens = true }),
		change("a declaration", api.ErrProduction, func(p *api.Production) { p.Scope.Declares, p.Scope.Kind = 1, 1 }),
		change("a use", api.ErrProduction, func(p *api.Production) { p.Scope.Uses = 1 }),
		change("no bracket, preferred, with a use", api.OK, func(p *api.Production) { p.Bracket, p.Rank, p.Scope.Uses = false, api.Preferred, 1 }),
		{"a bracket that is none", api.ErrProduction, func(g *api.Grammar) { g.Productions[5].Bracket = true }},
		{"a bracket with layout", api.ErrProduction, func(g *api.Grammar) { g.Productions[3].Bracket = true }},
	})
}

// P5.1, E1: levels.
func TestCheckLevels(t *testing.T) {
	change := func(what string, e api.Errno, i int, list ...int) damage {
		return damage{what, e, func(g *api.Grammar) { g.Levels[i].Productions = list }}
	}
	l := []damage{
		change("none", api.OK, 0),
		change("all", api.OK, 0, 5, 4, 3, 1, 0),
		change("twice in a level", api.ErrFilter, 0, 1, 3, 1),
		change("twice in a row", api.ErrFilter, 0, 3, 3),
		change("in two levels", api.ErrFilter, 1, 0, 3),
		change("in the first and the last level", api.ErrFilter, 2, 1),
		{"no levels", api.OK, func(g *api.Grammar) { g.Levels = nil }},
	}
	l = append(l, numbers("production", api.ErrFilter, func(g *api.Grammar, n int) { g.Levels[2].Productions[0] = n }, append(extremes(), 6, 7, 3)...)...)
	l = append(l, numbers("production", api.OK, func(g *api.Grammar, n int) { g.Levels[2].Productions[0] = n }, 0, 2, 4, 5)...)
	l = append(l, numbers("associativity", api.ErrFilter, func(g *api.Grammar, n int) { g.Levels[1].Assoc = n }, append(extremes(), 4)...)...)
	l = append(l, numbers("associativity", api.OK, func(g *api.Grammar, n int) { g.Levels[1].Assoc = n }, 0, 1, 2, 3)...)
	for i := range 3 {
		l = append(l, sets(fmt.Sprint("of level ", i), api.ErrFilter, func(g *api.Grammar) *api.Diagram { return &g.Levels[i].If })...)
	}
	expectDamages(t, l)
}

// P5.1, E1: the fields of each kind of filter, and those that a kind does not have.
func TestCheckFilters(t *testing.T) {
	type fields = func(f *api.Filter) *int
	parent := func(f *api.Filter) *int { return &f.Parent }
	at := func(f *api.Filter) *int { return &f.At }
	child := func(f *api.Filter) *int { return &f.Child }
	left := func(f *api.Filter) *int { return &f.Left }
	token := func(f *api.Filter) *int { return &f.Token }
	kind := func(f *api.Filter) *int { return &f.Kind }
	var l []damage
	add := func(what string, i int, field fields, good []int, bad ...int) {
		what = fmt.Sprint(what, " of filter ", i)
		apply := func(g *api.Grammar, n int) { *field(&g.Filters[i]) = n }
		l = append(l, numbers(what, api.OK, apply, good...)...)
		l = append(l, numbers(what, api.ErrFilter, apply, append(extremes(), bad...)...)...)
	}
	add("parent", 0, parent, []int{3}, 0, 1, 2, 4, 5, 6, 7)
	add("at", 0, at, []int{0, 2}, 1, 3, 4)
	add("child", 0, child, []int{1, 2, 3}, 0, 4, 5, 6)
	add("parent", 1, parent, []int{4}, 0, 1, 2, 3, 5, 6)
	add("at", 1, at, []int{1}, 0, 2, 3)
	add("child", 1, child, []int{4, 5}, 0, 1, 2, 3, 6)
	add("left", 2, left, []int{0, 1, 2}, 3, 8)
	add("left", 3, left, []int{0, 1, 2}, 3, 8)
	add("token", 4, token, []int{0, 7}, 1, 2, 3, 4, 5, 6, 8)
	for i, good := range [][]int{{1, 2}, {1, 2}, {3, 4}, {3, 4}, {5}} {
		bad := slices.DeleteFunc([]int{0, 1, 2, 3, 4, 5, 6}, func(k int) bool { return slices.Contains(good, k) })
		add("kind", i, kind, good, bad...)
	}
	for i, others := range [][]fields{{left, token}, {left, token}, {parent, at, child, token}, {parent, at, child, token}, {parent, at, child, left}} {
		for _, field := range others {
			add("an unused field", i, field, []int{0}, 1, 2, 3)
		}
	}
	list := func(e api.Errno, i int, tokens ...int) {
		l = append(l, damage{fmt.Sprint(tokens, " of filter ", i), e, func(g *api.Grammar) { g.Filters[i].Tokens = tokens }})
	}
	for i := range 2 {
		list(api.ErrFilter, i, 0)
		list(api.ErrFilter, i, 1, 2)
		list(api.OK, i)
	}
	for i := 2; i < 5; i++ {
		list(api.ErrFilter, i)
		for _, n := range append(extremes(), 8, 6, 4) { // 6 and 4 are neither ordinary nor literal
			list(api.ErrFilter, i, n)
			list(api.ErrFilter, i, 1, n)
			list(api.ErrFilter, i, n, 1)
		}
		list(api.ErrFilter, i, 1, 1)
		list(api.ErrFilter, i, 2, 1)
		list(api.ErrFilter, i, 1, 3, 2)
		list(api.ErrFilter, i, 1, 2, 2, 3)
		list(api.OK, i, 1, 2, 3)
		list(api.OK, i, 3)
	}
	for i := 2; i < 4; i++ {
		list(api.OK, i, 0, 1, 2, 3, 7)
		list(api.ErrFilter, i, 5) // not ordinary
	}
	list(api.OK, 4, 1, 2, 3, 5)
	list(api.ErrFilter, 4, 0) // no literals
	list(api.ErrFilter, 4, 7)
	list(api.ErrFilter, 4, 1, 2, 7)
	for i := range 5 {
		l = append(l, sets(fmt.Sprint("of filter ", i), api.ErrFilter, func(g *api.Grammar) *api.Diagram { return &g.Filters[i].If })...)
	}
	l = append(l,
		damage{"no filters", api.OK, func(g *api.Grammar) { g.Filters = nil }},
		damage{"a filter twice", api.OK, func(g *api.Grammar) { g.Filters = append(g.Filters, g.Filters...) }},
		damage{"a zero filter", api.ErrFilter, func(g *api.Grammar) { g.Filters = append(g.Filters, api.Filter{If: all()}) }},
		damage{"a child whose left side has the number of the token there", api.ErrFilter, func(g *api.Grammar) { g.Filters[0].At = 1 }},
	)
	expectDamages(t, l)
}

// P5.1, E1, R4: of several errors, Check returns the one that the chapter names first.
func TestCheckOrder(t *testing.T) {
	list := []damage{
		{"conditions", api.ErrLarge, func(g *api.Grammar) { g.Conditions = make([]string, 65) }},
		{"right", api.ErrLarge, func(g *api.Grammar) { g.Productions[5].Right = make([]api.Symbol, 17) }},
		{"condition", api.ErrFamily, func(g *api.Grammar) { g.Conditions[0] = "true" }},
		{"family", api.ErrFamily, func(g *api.Grammar) { g.Family = none() }},
		{"first token", api.ErrToken, func(g *api.Grammar) { g.Tokens[0].Name = "" }},
		{"last token", api.ErrToken, func(g *api.Grammar) { g.Tokens[7].If = notReached() }},
		{"nonterminal", api.ErrSymbol, func(g *api.Grammar) { g.Nonterminals[2] = "" }},
		{"start", api.ErrSymbol, func(g *api.Grammar) { g.Start = -1 }},
		{"symbol of production 0", api.ErrSymbol, func(g *api.Grammar) { g.Productions[0].Right[0] = aToken(4) }},
		{"name of production 0", api.ErrProduction, func(g *api.Grammar) { g.Productions[0].Name = "" }},
		{"left of production 1", api.ErrSymbol, func(g *api.Grammar) { g.Productions[1].Left = 3 }},
		{"scope of production 1", api.ErrProduction, func(g *api.Grammar) { g.Productions[1].Scope.Allowed = 256 }},
		{"symbol of production 2", api.ErrSymbol, func(g *api.Grammar) { g.Productions[2].Right[1] = aNonterminal(-1) }},
		{"rank of production 2", api.ErrProduction, func(g *api.Grammar) { g.Productions[2].Rank = 1 }},
		{"layout of production 3", api.ErrProduction, func(g *api.Grammar) { g.Productions[3].Layout[3].A = 3 }},
		{"left of production 4", api.ErrSymbol, func(g *api.Grammar) { g.Productions[4].Left = 3 }},
		{"family of production 5", api.ErrProduction, func(g *api.Grammar) { g.Productions[5].If = is(3) }},
		{"level", api.ErrFilter, func(g *api.Grammar) { g.Levels[0].Assoc = 4 }},
		{"filter", api.ErrFilter, func(g *api.Grammar) { g.Filters[4].Kind = 6 }},
	}
	expectDamages(t, list)
	for i, d := range list {
		for j, other := range list[i:] {
			if d.what == "conditions" && other.what == "condition" {
				continue
			}
			g := rich()
			d.apply(&g)
			other.apply(&g)
			expectCheck(t, d.what+" and "+other.what, g, d.e)
			g = rich()
			for k := len(list) - 1; k >= i+j; k-- {
				list[k].apply(&g)
			}
			d.apply(&g)
			expectCheck(t, d.what+" and all from "+other.what, g, d.e)
		}
	}
}

// P5.1, E1: random grammars are valid, and changed ones have the error that the definition says.
func TestCheckRandom(t *testing.T) {
	r := rand.New(rand.NewPCG(5, 1))
	found := map[api.Errno]int{}
	for i := range 6000 {
		g := rich()
		if i%3 > 0 {
			g = randomGrammar(r, r.IntN(5))
		}
		expectCheck(t, "random", g, api.OK)
		for range 1 + r.IntN(3) {
			mutate(r, &g)
		}
		want := first(g)
		found[want]++
		argument := copyOf(g)
		expectCheck(t, fmt.Sprint(g), argument, want)
		unchanged(t, argument, g)
	}
	for _, e := range []api.Errno{api.OK, api.ErrFamily, api.ErrToken, api.ErrSymbol, api.ErrProduction, api.ErrFilter} {
		if found[e] < 100 {
			t.Errorf("only %d grammars with the error %v", found[e], e)
		}
	}
}

// P5.5: renaming, removing the last filter or level, and restricting the family keep a grammar valid.
func TestCheckKept(t *testing.T) {
	r := rand.New(rand.NewPCG(5, 2))
	for i := range 400 {
		g := rich()
		if i > 0 {
			g = randomGrammar(r, r.IntN(6))
		}
		for _, name := range []string{"fresh", "_", "Z9", "True"} {
			for i := range g.Conditions {
				h := copyOf(g)
				h.Conditions[i] = name
				expectCheck(t, "condition "+name, h, api.OK)
			}
		}
		for _, name := range []string{"fresh", " ", "true", "\x00", "é", "+"} {
			for i := range g.Tokens {
				h := copyOf(g)
				h.Tokens[i].Name = name
				expectCheck(t, "token "+name, h, api.OK)
			}
			for i := range g.Nonterminals {
				h := copyOf(g)
				h.Nonterminals[i] = name
				expectCheck(t, "nonterminal "+name, h, api.OK)
			}
			for i := range g.Productions {
				h := copyOf(g)
				h.Productions[i].Name = name
				expectCheck(t, "production "+name, h, api.OK)
			}
		}
		for h := g; len(h.Filters) > 0; {
			h.Filters = h.Filters[:len(h.Filters)-1]
			expectCheck(t, "fewer filters", h, api.OK)
		}
		for h := g; len(h.Levels) > 0; {
			h.Levels = h.Levels[:len(h.Levels)-1]
			expectCheck(t, "fewer levels", h, api.OK)
		}
		for range 5 {
			h := g
			h.Family = sure(diagram.And(g.Family, randomSet(r, len(g.Conditions))))
			if !diagram.Same(h.Family, none()) {
				expectCheck(t, "part of the family", h, api.OK)
			}
		}
	}
}

// An index is a place of an index, and the number of elements that it can refer to.
type index struct {
	place *int
	bound int
}

// indexes returns all places of indexes of a grammar.
func indexes(g *api.Grammar) []index {
	l := []index{{&g.Start, len(g.Nonterminals)}}
	set := func(d *api.Diagram) {
		l = append(l, index{&d.Root, len(d.Nodes) + 2})
		for i := range d.Nodes {
			l = append(l, index{&d.Nodes[i].Low, i + 2}, index{&d.Nodes[i].High, i + 2}, index{&d.Nodes[i].Var, len(g.Conditions)})
		}
	}
	set(&g.Family)
	for i := range g.Tokens {
		set(&g.Tokens[i].If)
		for j := range g.Tokens[i].Pattern {
			n := &g.Tokens[i].Pattern[j]
			l = append(l, index{&n.A, max(1, j)}, index{&n.B, max(1, j)})
		}
	}
	for i := range g.Productions {
		p := &g.Productions[i]
		set(&p.If)
		l = append(l, index{&p.Left, len(g.Nonterminals)}, index{&p.Scope.Declares, len(p.Right) + 1}, index{&p.Scope.Uses, len(p.Right) + 1})
		for j, s := range p.Right {
			bound := len(g.Nonterminals)
			if s.Token {
				bound = len(g.Tokens)
			}
			l = append(l, index{&p.Right[j].Index, bound})
		}
		for j := range p.Layout {
			l = append(l, index{&p.Layout[j].A, len(p.Right)}, index{&p.Layout[j].B, len(p.Right)})
		}
	}
	for i := range g.Levels {
		set(&g.Levels[i].If)
		for j := range g.Levels[i].Productions {
			l = append(l, index{&g.Levels[i].Productions[j], len(g.Productions)})
		}
	}
	for i := range g.Filters {
		f := &g.Filters[i]
		set(&f.If)
		l = append(l, index{&f.Left, len(g.Nonterminals)}, index{&f.Token, max(1, len(g.Tokens))}, index{&f.At, api.MaxSymbols})
		l = append(l, index{&f.Parent, max(1, len(g.Productions))}, index{&f.Child, max(1, len(g.Productions))})
		if f.Kind <= api.FilterSpine {
			l = append(l, index{&f.At, len(g.Productions[f.Parent].Right)})
		}
		for j := range f.Tokens {
			l = append(l, index{&f.Tokens[j], len(g.Tokens)})
		}
	}
	return l
}

// P5.6: a grammar with one index out of range is not valid.
func TestCheckDamage(t *testing.T) {
	r := rand.New(rand.NewPCG(5, 3))
	for i := range 300 {
		g := copyOf(rich())
		if i > 0 {
			g = copyOf(randomGrammar(r, r.IntN(5)))
		}
		for _, x := range indexes(&g) {
			old := *x.place
			for _, n := range append(extremes(), x.bound, x.bound+1, x.bound+1000) {
				*x.place = n
				want := first(g)
				if want == api.OK {
					t.Fatalf("the definition allows %d of %d in %v", n, x.bound, g)
				}
				if e := grammar.Check(g); e != want {
					t.Fatalf("%d of %d: %v, want %v", n, x.bound, e, want)
				}
			}
			*x.place = old
		}
		expectCheck(t, "repaired", g, api.OK)
	}
}
