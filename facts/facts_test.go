package facts_test

import (
	"math/rand/v2"
	"reflect"
	"testing"

	"koine/api"
	"koine/diagram"
	"koine/facts"
	"koine/grammar"
)

// expectSets fails unless sets are the wanted ones.
func expectSets(t *testing.T, what string, got []api.Diagram, want ...api.Diagram) {
	t.Helper()
	if len(got) != len(want) {
		t.Fatalf("%s: %d sets, want %d", what, len(got), len(want))
	}
	for i, d := range got {
		if !diagram.Same(d, want[i]) {
			t.Errorf("%s: set %d is %v, want %v", what, i, d, want[i])
		}
	}
}

// P6.1, F1 to F4: the chapter's examples. A is S, B is T; a is x, b is y.
func TestExamples(t *testing.T) {
	a, b := is(0), is(1)
	g := made(2, 2, 2, line{"A", "aB", all()}, line{"B", "", a}, line{"B", "bB", b})
	r := results(t, g)
	expectSets(t, "Nullable", r.nullable, none(), a)
	expectSets(t, "Productive", r.productive, a, a)
	expectSets(t, "First of S", r.first[0], a, none())
	expectSets(t, "First of T", r.first[1], none(), and(a, b))
	expectSets(t, "Useful", r.useful, a, a, and(a, b))
	expectSets(t, "Cyclic", r.cyclic, none(), none())

	g = made(2, 2, 2, line{"A", "B", all()}, line{"B", "A", a}, line{"B", "a", all()})
	r = results(t, g)
	expectSets(t, "Cyclic", r.cyclic, a, a)
	if e := facts.Check(g); e != api.ErrCycle {
		t.Errorf("Check = %v, want ErrCycle", e)
	}

	r = results(t, made(2, 2, 2, line{"A", "a", all()}, line{"B", "b", all()}))
	expectSets(t, "Useful", r.useful, all(), none())

	r = results(t, made(2, 2, 2, line{"A", "BAB", a}, line{"A", "a", all()}, line{"B", "", all()}))
	expectSets(t, "Cyclic", r.cyclic, a, none())
}

// P6.1, F2: the definition of cyclic nonterminals, which need not be productive.
func TestCyclic(t *testing.T) {
	a, b := is(0), is(1)
	for _, x := range []struct {
		what  string
		lines []line
		want  []api.Diagram
	}{
		{"itself", []line{{"A", "A", all()}}, []api.Diagram{all(), none(), none(), none()}},
		{"itself and an empty symbol", []line{{"A", "BA", all()}, {"B", "", a}, {"C", "CB", b}}, []api.Diagram{a, none(), and(a, b), none()}},
		{"twice itself", []line{{"A", "AA", all()}}, []api.Diagram{none(), none(), none(), none()}},
		{"twice itself, empty", []line{{"A", "AA", all()}, {"A", "", a}}, []api.Diagram{a, none(), none(), none()}},
		{"with a token", []line{{"A", "aA", all()}, {"B", "Ba", all()}}, []api.Diagram{none(), none(), none(), none()}},
		{"behind the end", []line{{"A", "B", all()}, {"B", "C", all()}, {"C", "B", a}, {"C", "D", all()}}, []api.Diagram{none(), a, a, none()}},
		{"never together", []line{{"A", "B", a}, {"B", "A", not(a)}}, []api.Diagram{none(), none(), none(), none()}},
		{"a long ring, never together", []line{{"A", "B", a}, {"B", "C", all()}, {"C", "D", all()}, {"D", "E", all()}, {"E", "F", not(a)}, {"F", "G", all()}, {"G", "A", all()}},
			[]api.Diagram{none(), none(), none(), none(), none(), none(), none()}},
		{"two ways back", []line{{"A", "B", all()}, {"B", "A", a}, {"B", "C", b}, {"C", "A", all()}, {"C", "C", not(a)}},
			[]api.Diagram{or(a, b), or(a, b), or(not(a), b), none()}},
		{"two rings", []line{{"A", "B", a}, {"B", "A", all()}, {"B", "C", b}, {"C", "D", b}, {"D", "C", all()}}, []api.Diagram{a, a, b, b}},
		{"an eight", []line{{"A", "B", all()}, {"B", "A", a}, {"B", "C", all()}, {"C", "B", b}}, []api.Diagram{a, or(a, b), b, none()}},
		{"a ring that waits for an empty symbol", []line{{"A", "BC", all()}, {"B", "A", all()}, {"C", "DD", a}, {"D", "", b}},
			[]api.Diagram{and(a, b), and(a, b), none(), none()}},
	} {
		r := results(t, made(2, 1, len(x.want), x.lines...))
		expectSets(t, x.what, r.cyclic, x.want...)
	}
}

// P6.1: a production is in the grammar only with its tokens, a token only in its configurations, and nothing outside the family.
func TestPresence(t *testing.T) {
	a, b := is(0), is(1)
	g := made(3, 3, 2, line{"A", "Ba", all()}, line{"B", "", not(b)}, line{"B", "bc", all()})
	g.Tokens[0].If, g.Tokens[1].If, g.Tokens[2].If = a, b, is(2)
	g.Family = or(a, is(2))
	r := results(t, g)
	nullable := and(g.Family, not(b))
	productive := or(nullable, and(b, is(2)))
	expectSets(t, "Nullable", r.nullable, none(), nullable)
	expectSets(t, "Productive", r.productive, and(a, productive), productive)
	expectSets(t, "Useful", r.useful, and(a, productive), and(a, nullable), and(a, and(b, is(2))))
	expectSets(t, "First of S", r.first[0], and(a, not(b)), and(a, and(b, is(2))), none())
	expectSets(t, "First of T", r.first[1], none(), and(b, is(2)), none())

	// With a cycle outside the family, the grammar is good.
	g = made(2, 0, 1, line{"A", "A", a})
	g.Family = not(a)
	if e := facts.Check(g); e != api.OK {
		t.Errorf("Check = %v for a cycle outside the family", e)
	}
	expectSets(t, "Cyclic", results(t, g).cyclic, none())
}

// P6.1, F4: what is behind the first token matters, and what is behind an empty symbol.
func TestFirst(t *testing.T) {
	a := is(0)
	r := results(t, made(1, 3, 3, line{"A", "BCa", all()}, line{"B", "", a}, line{"B", "b", all()}, line{"C", "", all()}, line{"C", "cC", all()}))
	expectSets(t, "First of A", r.first[0], a, all(), a)
	r = results(t, made(1, 2, 2, line{"A", "aB", all()}, line{"A", "b", all()}, line{"B", "a", a}))
	expectSets(t, "First with an unproductive rest", r.first[0], a, all())
	r = results(t, made(1, 2, 2, line{"A", "Ba", all()}, line{"B", "Bb", all()}, line{"B", "", a}, line{"B", "A", all()}))
	expectSets(t, "First of a left recursion", r.first[0], a, a)
	r = results(t, made(0, 2, 1))
	expectSets(t, "First without productions", r.first[0], none(), none())
	r = results(t, made(0, 0, 1, line{"A", "", all()}))
	expectSets(t, "First without tokens", r.first[0])
	expectSets(t, "Nullable without tokens", r.nullable, all())
}

// P6.1, F3: useful productions need a derivation from the start symbol to tokens.
func TestUseful(t *testing.T) {
	a, b := is(0), is(1)
	g := made(2, 1, 4, line{"A", "BC", a}, line{"A", "a", all()}, line{"B", "a", all()}, line{"C", "", b}, line{"C", "D", all()}, line{"D", "D", all()}, line{"B", "A", all()})
	r := results(t, g)
	ab := and(a, b)
	expectSets(t, "Useful", r.useful, ab, all(), ab, ab, none(), none(), ab)
	g.Start = 3
	expectSets(t, "Useful from an unproductive start", results(t, g).useful, none(), none(), none(), none(), none(), none(), none())
	g.Start = 1
	expectSets(t, "Useful from another start", results(t, g).useful, ab, all(), all(), ab, none(), none(), all())
}

// expectError fails unless all functions return an error and no result.
func expectError(t *testing.T, what string, g api.Grammar, want api.Errno) {
	t.Helper()
	if e := facts.Check(g); e != want {
		t.Errorf("%s: Check = %v, want %v", what, e, want)
	}
	for name, f := range map[string]func(api.Grammar) ([]api.Diagram, api.Errno){"Nullable": facts.Nullable, "Productive": facts.Productive, "Useful": facts.Useful, "Cyclic": facts.Cyclic} {
		if l, e := f(g); e != want || len(l) > 0 {
			t.Errorf("%s: %s = %d sets, %v, want %v", what, name, len(l), e, want)
		}
	}
	if l, e := facts.First(g); e != want || len(l) > 0 {
		t.Errorf("%s: First = %d rows, %v, want %v", what, len(l), e, want)
	}
}

// P6.1, F1 to F4: the error of grammar.Check comes first, also for grammars with cycles.
func TestInvalid(t *testing.T) {
	for _, x := range []struct {
		what string
		do   func(g *api.Grammar)
		want api.Errno
	}{
		{"too many conditions", func(g *api.Grammar) { g.Conditions = make([]string, 65) }, api.ErrLarge},
		{"too many symbols", func(g *api.Grammar) { g.Productions[0].Right = make([]api.Symbol, 17) }, api.ErrLarge},
		{"the condition true", func(g *api.Grammar) { g.Conditions[0] = "true" }, api.ErrFamily},
		{"an empty family", func(g *api.Grammar) { g.Family = none() }, api.ErrFamily},
		{"a family of other conditions", func(g *api.Grammar) { g.Family = is(5) }, api.ErrFamily},
		{"a family that is no diagram", func(g *api.Grammar) { g.Family.Root = 7 }, api.ErrFamily},
		{"a token without a name", func(g *api.Grammar) { g.Tokens[0].Name = "" }, api.ErrToken},
		{"a token's set", func(g *api.Grammar) { g.Tokens[0].If.Root = -1 }, api.ErrToken},
		{"no nonterminals", func(g *api.Grammar) { g.Nonterminals = nil }, api.ErrSymbol},
		{"the start", func(g *api.Grammar) { g.Start = 2 }, api.ErrSymbol},
		{"a left side", func(g *api.Grammar) { g.Productions[1].Left = -1 }, api.ErrSymbol},
		{"a nonterminal", func(g *api.Grammar) { g.Productions[0].Right[0].Index = 2 }, api.ErrSymbol},
		{"a token", func(g *api.Grammar) { g.Productions[1].Right[0].Index = 1 << 40 }, api.ErrSymbol},
		{"a layout token", func(g *api.Grammar) { g.Tokens[0].Class = api.Layout }, api.ErrSymbol},
		{"a production's name", func(g *api.Grammar) { g.Productions[1].Name = g.Productions[0].Name }, api.ErrProduction},
		{"a production's set", func(g *api.Grammar) { g.Productions[1].If = is(63) }, api.ErrProduction},
		{"a level", func(g *api.Grammar) { g.Levels = []api.Level{{Productions: []int{9}}} }, api.ErrFilter},
		{"a filter", func(g *api.Grammar) { g.Filters = []api.Filter{{Kind: 9}} }, api.ErrFilter},
	} {
		for _, cycle := range []string{"B", "A"} {
			g := made(1, 1, 2, line{"A", cycle, all()}, line{"B", "a", all()})
			x.do(&g)
			if e := grammar.Check(g); e != x.want {
				t.Fatalf("%s: grammar.Check = %v", x.what, e)
			}
			expectError(t, x.what, g, x.want)
		}
	}
	expectError(t, "nothing", api.Grammar{}, api.ErrFamily)
}

// expectAnswers compares what the functions return for a grammar with an authority, in all configurations.
func expectAnswers(t *testing.T, g api.Grammar, authority func(c api.Config) answer) {
	t.Helper()
	r := results(t, g)
	for _, c := range configurations(g) {
		if got, want := r.at(g, c), authority(c); !reflect.DeepEqual(got, want) {
			t.Fatalf("in configuration %d of %v:\ngot  %v,\nwant %v", c, g, got, want)
		}
	}
}

// P6.1: random small grammars, compared with a search for derivations by the chapter's definitions.
func TestSearch(t *testing.T) {
	r := rand.New(rand.NewPCG(6, 1))
	for _, s := range []size{{1, 1, 1, 4, 4}, {2, 2, 2, 6, 3}, {2, 2, 3, 7, 2}, {2, 1, 3, 9, 2}} {
		for range 400 {
			g := randomGrammar(r, s)
			expectAnswers(t, g, func(c api.Config) answer { return searchIn(g, c).answer() })
		}
	}
}

// P6.1: random grammars, compared with the plainest computation in each configuration, and that with the search.
func TestRandom(t *testing.T) {
	r := rand.New(rand.NewPCG(6, 2))
	for range 200 {
		g := randomGrammar(r, size{2, 2, 2, 6, 3})
		for _, c := range configurations(g) {
			if got, want := rounds(g, c), searchIn(g, c).answer(); !reflect.DeepEqual(got, want) {
				t.Fatalf("the authorities differ in configuration %d of %v: %v, %v", c, g, got, want)
			}
		}
	}
	for _, s := range []size{{3, 4, 5, 12, 3}, {5, 6, 8, 25, 4}, {4, 3, 12, 30, 2}, {3, 5, 6, 20, 16}} {
		for range 500 {
			g := randomGrammar(r, s)
			expectAnswers(t, g, func(c api.Config) answer { return rounds(g, c) })
		}
	}
}

// P6.1: levels, filters and all other parts of a grammar play no part.
func TestOtherParts(t *testing.T) {
	r := rand.New(rand.NewPCG(6, 3))
	for range 100 {
		g := randomGrammar(r, size{3, 3, 4, 10, 3})
		before := results(t, g)
		for i := range g.Productions {
			p := &g.Productions[i]
			p.Rank, p.Scope.Opens = r.IntN(3)-1, r.IntN(2) == 0
			for at := range p.Right {
				p.Layout = append(p.Layout, api.Constraint{Kind: api.Align, A: at})
			}
			g.Levels = append(g.Levels, api.Level{Productions: []int{i}, Assoc: r.IntN(4), If: randomSet(r, len(g.Conditions))})
			for k, s := range p.Right {
				for q, child := range g.Productions {
					if !s.Token && child.Left == s.Index {
						g.Filters = append(g.Filters, api.Filter{Kind: api.FilterChild, Parent: i, At: k, Child: q, If: all()})
					}
				}
			}
		}
		if after := results(t, g); !reflect.DeepEqual(before, after) {
			t.Fatalf("levels or filters change the results of %v", g)
		}
	}
}
