package facts_test

import (
	"maps"
	"math/rand/v2"
	"reflect"
	"slices"
	"testing"

	"koine/api"
	"koine/diagram"
	"koine/grammar"
)

// sizes of random grammars for the promises.
func sizes() []size { return []size{{3, 3, 3, 8, 3}, {4, 5, 7, 20, 4}, {3, 2, 9, 25, 2}} }

// P6.2: the sets of the grammar of a configuration are not empty exactly where it is in the sets of the family.
func TestConfigurations(t *testing.T) {
	r := rand.New(rand.NewPCG(6, 4))
	for _, s := range sizes() {
		for range 100 {
			g := randomGrammar(r, s)
			family := results(t, g)
			for _, c := range configurations(g) {
				one := results(t, sure(grammar.At(g, c)))
				sets := family.sets()
				for i, d := range one.sets() {
					if in := diagram.Holds(sets[i], c); in == diagram.Same(d, none()) || in && !diagram.Same(d, all()) {
						t.Fatalf("set %d of %v and that in configuration %d differ", i, g, c)
					}
				}
			}
		}
	}
}

// where returns where a production is present with its tokens and all its nonterminals are in the given sets.
func where(g api.Grammar, p api.Production, sets []api.Diagram) api.Diagram {
	d := and(g.Family, p.If)
	for _, s := range p.Right {
		if s.Token {
			d = and(d, g.Tokens[s.Index].If)
		} else {
			d = and(d, sets[s.Index])
		}
	}
	return d
}

// P6.3: fixed points, and P6.4: a production is useful only where it is present with productive nonterminals.
func TestFixedPoints(t *testing.T) {
	r := rand.New(rand.NewPCG(6, 5))
	for _, s := range sizes() {
		for range 200 {
			g := randomGrammar(r, s)
			x := results(t, g)
			productive := make([]api.Diagram, len(g.Nonterminals))
			for i, p := range g.Productions {
				set := where(g, p, x.productive)
				productive[p.Left] = or(productive[p.Left], set)
				if !diagram.Within(x.useful[i], set) {
					t.Fatalf("production %d of %v is useful where it is not usable", i, g)
				}
			}
			expectSets(t, "Productive", x.productive, productive...)
			for n, nullable := range x.nullable {
				begins := nullable
				for _, d := range x.first[n] {
					begins = or(begins, d)
				}
				if !diagram.Within(nullable, x.productive[n]) || !diagram.Same(begins, x.productive[n]) {
					t.Fatalf("nonterminal %d of %v: productive, but neither nullable nor with a first token, or the reverse", n, g)
				}
			}
		}
	}
}

// sentences returns the sequences of at most longest tokens that the start symbol derives in a configuration.
func sentences(g api.Grammar, c api.Config, longest int) []string {
	derived := make([]map[string]bool, len(g.Nonterminals))
	for i := range derived {
		derived[i] = map[string]bool{}
	}
	for grown := true; grown; {
		grown = false
		for _, p := range g.Productions {
			if !present(g, p, c) {
				continue
			}
			for _, x := range joined(p.Right, derived, longest) {
				grown = grown || !derived[p.Left][x]
				derived[p.Left][x] = true
			}
		}
	}
	return slices.Sorted(maps.Keys(derived[g.Start]))
}

// joined returns the sequences of at most longest tokens that a right side derives, if nonterminals derive the given ones.
func joined(right []api.Symbol, derived []map[string]bool, longest int) []string {
	list := []string{""}
	for _, s := range right {
		seen := map[string]bool{}
		for _, x := range list {
			if s.Token {
				seen[x+letters([]api.Symbol{s})] = true
				continue
			}
			for y := range derived[s.Index] {
				seen[x+y] = true
			}
		}
		maps.DeleteFunc(seen, func(x string, _ bool) bool { return len(x) > longest })
		list = slices.Collect(maps.Keys(seen))
	}
	return list
}

// P6.4: without the productions that are useful nowhere, the start symbol derives the same sequences of tokens.
func TestUselessProductions(t *testing.T) {
	r := rand.New(rand.NewPCG(6, 6))
	removed, sequences := 0, 0
	for range 600 {
		g := randomGrammar(r, size{3, 3, 4, 12, 3})
		x := results(t, g)
		if diagram.Same(x.productive[g.Start], none()) {
			continue
		}
		rest := copyOf(g)
		rest.Productions = nil
		for i, p := range g.Productions {
			if !diagram.Same(x.useful[i], none()) {
				rest.Productions = append(rest.Productions, p)
			}
		}
		removed += len(g.Productions) - len(rest.Productions)
		for _, c := range configurations(g) {
			before, after := sentences(g, c, 4), sentences(rest, c, 4)
			sequences += len(before)
			if !slices.Equal(before, after) {
				t.Fatalf("in configuration %d, %v without useless productions derives %v, not %v", c, g, after, before)
			}
		}
	}
	if removed < 50 || sequences < 500 {
		t.Errorf("%d productions were removed, %d sequences compared", removed, sequences)
	}
}

// P6.4: a useful production changes the sequences if it is removed, at least where it derives a token of its own.
func TestUsefulProductions(t *testing.T) {
	r := rand.New(rand.NewPCG(6, 7))
	for range 300 {
		g := randomGrammar(r, size{2, 2, 3, 7, 2})
		if len(g.Productions) == 0 {
			continue
		}
		own := len(g.Tokens)
		g.Tokens = append(g.Tokens, api.Token{Name: "own", Literal: "own", If: all()})
		i := r.IntN(len(g.Productions))
		g.Productions[i].Right = append(g.Productions[i].Right, api.Symbol{Token: true, Index: own})
		x := results(t, g)
		for _, c := range configurations(g) {
			derived := slices.ContainsFunc(sentences(g, c, 7), func(s string) bool { return slices.Contains([]byte(s), 'a'+byte(own)) })
			if derived && !diagram.Holds(x.useful[i], c) {
				t.Fatalf("production %d of %v is used in configuration %d but not useful", i, g, c)
			}
			if !derived && diagram.Holds(x.useful[i], c) && len(g.Productions) < 4 {
				t.Fatalf("production %d of %v is useful in configuration %d but not used", i, g, c)
			}
		}
	}
}

// P6.5: a further production makes none of these sets smaller.
func TestGrowth(t *testing.T) {
	r := rand.New(rand.NewPCG(6, 8))
	grown := 0
	for _, s := range sizes() {
		for range 150 {
			g := randomGrammar(r, s)
			before := results(t, g)
			g.Productions = append(g.Productions, randomProduction(r, g, s.right, 2))
			after := results(t, g)
			before.useful, after.useful = nil, nil
			sets := after.sets()
			for i, d := range before.sets() {
				if !diagram.Within(d, sets[i]) {
					t.Fatalf("set %d of %v was larger without the last production", i, g)
				}
			}
			if !reflect.DeepEqual(before, after) {
				grown++
			}
		}
	}
	if grown < 50 {
		t.Errorf("only %d grammars have other sets with a further production", grown)
	}
}
