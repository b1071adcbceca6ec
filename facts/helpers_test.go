package facts_test

import (
	"math/rand/v2"
	"reflect"
	"slices"
	"strconv"
	"testing"

	"koine/api"
	"koine/diagram"
	"koine/facts"
)

// sure returns the result of a call that cannot fail.
func sure[T any](result T, e api.Errno) T {
	if e != api.OK {
		panic("error " + strconv.Itoa(int(e)))
	}
	return result
}

func all() api.Diagram                 { return diagram.Constant(true) }
func none() api.Diagram                { return diagram.Constant(false) }
func is(v int) api.Diagram             { return sure(diagram.Var(v)) }
func not(a api.Diagram) api.Diagram    { return sure(diagram.Not(a)) }
func and(a, b api.Diagram) api.Diagram { return sure(diagram.And(a, b)) }
func or(a, b api.Diagram) api.Diagram  { return sure(diagram.Or(a, b)) }

// symbols are the names of the symbols of a grammar made by made: a small letter is a token, a capital letter a nonterminal.
func symbols(right string) []api.Symbol {
	var list []api.Symbol
	for _, c := range []byte(right) {
		if c >= 'a' {
			list = append(list, api.Symbol{Token: true, Index: int(c - 'a')})
		} else {
			list = append(list, api.Symbol{Index: int(c - 'A')})
		}
	}
	return list
}

// A line is a production: its left and right sides as letters, and where it is present.
type line struct {
	left, right string
	set         api.Diagram
}

// made returns a grammar with some conditions, tokens a, b.., and nonterminals A, B.., the first of which is the start symbol.
func made(conditions, tokens, nonterminals int, lines ...line) api.Grammar {
	g := api.Grammar{Family: all()}
	for i := range conditions {
		g.Conditions = append(g.Conditions, "C"+strconv.Itoa(i))
	}
	for i := range tokens {
		name := "t" + strconv.Itoa(i)
		g.Tokens = append(g.Tokens, api.Token{Name: name, Literal: name, If: all()})
	}
	for i := range nonterminals {
		g.Nonterminals = append(g.Nonterminals, "N"+strconv.Itoa(i))
	}
	for _, l := range lines {
		g.Productions = append(g.Productions, api.Production{Name: "p" + strconv.Itoa(len(g.Productions)), Left: int(l.left[0] - 'A'), Right: symbols(l.right), If: l.set})
	}
	return g
}

// A result is what all functions return for a grammar.
type result struct {
	nullable, productive, useful, cyclic []api.Diagram
	first                                [][]api.Diagram
}

// sets returns all sets of a result.
func (r result) sets() []api.Diagram {
	return slices.Concat(r.nullable, r.productive, r.cyclic, slices.Concat(r.first...), r.useful)
}

// results returns what the functions return for a valid grammar, and fails unless they leave it as it is, return sets of the right form, and Check says what Cyclic says.
func results(t *testing.T, g api.Grammar) result {
	t.Helper()
	given := g
	g = copyOf(given)
	r := result{sure(facts.Nullable(g)), sure(facts.Productive(g)), sure(facts.Useful(g)), sure(facts.Cyclic(g)), sure(facts.First(g))}
	e := facts.Check(g)
	if !reflect.DeepEqual(copyOf(g), copyOf(given)) || !untouched(reflect.ValueOf(g)) {
		t.Fatal("an argument was changed")
	}
	n := len(g.Nonterminals)
	if len(r.nullable) != n || len(r.productive) != n || len(r.cyclic) != n || len(r.first) != n || len(r.useful) != len(g.Productions) {
		t.Fatal("a result has a wrong length")
	}
	for _, row := range r.first {
		if len(row) != len(g.Tokens) {
			t.Fatal("a row of First has a wrong length")
		}
	}
	for _, d := range r.sets() {
		if diagram.Check(d) != api.OK || !diagram.Within(d, g.Family) {
			t.Fatalf("%v is not a set of configurations of the family", d)
		}
	}
	separate(t, g, r.nullable)
	separate(t, g, r.productive)
	separate(t, g, r.useful)
	separate(t, g, r.cyclic)
	separate(t, g, r.first)
	if some := slices.ContainsFunc(r.cyclic, func(d api.Diagram) bool { return !diagram.Same(d, none()) }); e != api.OK && e != api.ErrCycle || some != (e == api.ErrCycle) {
		t.Fatalf("Check = %v, with cycles: %v", e, some)
	}
	return r
}

// copied returns a value that shares no memory with v. All lists have spare capacity.
func copied(v reflect.Value) reflect.Value {
	c := reflect.New(v.Type()).Elem()
	switch v.Kind() {
	case reflect.Slice:
		c.Set(reflect.MakeSlice(v.Type(), v.Len(), v.Len()+2))
		for i := range v.Len() {
			c.Index(i).Set(copied(v.Index(i)))
		}
	case reflect.Struct:
		for i := range v.NumField() {
			c.Field(i).Set(copied(v.Field(i)))
		}
	default:
		c.Set(v)
	}
	return c
}

func copyOf(g api.Grammar) api.Grammar { return copied(reflect.ValueOf(g)).Interface().(api.Grammar) }

// lists calls a function for each list of a value.
func lists(v reflect.Value, visit func(list reflect.Value)) {
	switch v.Kind() {
	case reflect.Slice:
		visit(v)
		for i := range v.Len() {
			lists(v.Index(i), visit)
		}
	case reflect.Struct:
		for i := range v.NumField() {
			lists(v.Field(i), visit)
		}
	}
}

// untouched says whether the spare capacity of all lists of a value that has been copied is still zero.
func untouched(v reflect.Value) bool {
	zero := true
	lists(v, func(list reflect.Value) {
		for i := list.Len(); i < list.Cap(); i++ {
			zero = zero && list.Slice(0, list.Cap()).Index(i).IsZero()
		}
	})
	return zero
}

// separate fails if a list of the result shares memory with another one of it, or with one of the grammar.
func separate(t *testing.T, g api.Grammar, result any) {
	t.Helper()
	type place struct {
		from, to uintptr
		given    bool
	}
	var places []place
	for i, v := range []any{g, result} {
		lists(reflect.ValueOf(v), func(list reflect.Value) {
			if list.Cap() > 0 {
				places = append(places, place{list.Pointer(), list.Pointer() + uintptr(list.Cap())*list.Type().Elem().Size(), i == 0})
			}
		})
	}
	slices.SortFunc(places, func(a, b place) int { return int(a.from) - int(b.from) })
	end, given := uintptr(0), true
	for _, p := range places {
		if p.from < end && !(p.given && given) {
			t.Fatal("a list of a result shares memory")
		}
		if p.to > end {
			end, given = p.to, p.given
		}
	}
}

// randomSet returns a set of configurations of n conditions.
func randomSet(r *rand.Rand, n int) api.Diagram {
	d := diagram.Constant(r.IntN(5) > 0)
	for range r.IntN(4) {
		if n == 0 {
			break
		}
		x := is(r.IntN(n))
		switch r.IntN(4) {
		case 0:
			d = and(d, x)
		case 1:
			d = or(d, x)
		case 2:
			d = sure(diagram.Xor(d, x))
		case 3:
			d = and(d, not(x))
		}
	}
	return d
}

// A size says how large random grammars are, at most.
type size struct{ conditions, tokens, nonterminals, productions, right int }

// randomGrammar returns a valid grammar. All its lists have spare capacity.
func randomGrammar(r *rand.Rand, s size) api.Grammar {
	n := r.IntN(s.conditions + 1)
	g := made(n, r.IntN(s.tokens+1), 1+r.IntN(s.nonterminals))
	for g.Family = none(); diagram.Same(g.Family, none()); {
		g.Family = randomSet(r, n)
	}
	for i := range g.Tokens {
		g.Tokens[i].If = randomSet(r, n)
		if r.IntN(9) == 0 {
			g.Tokens[i].Class = 1 + r.IntN(2)
		}
	}
	g.Start = r.IntN(len(g.Nonterminals))
	density := r.IntN(4) // the share of tokens among the symbols
	for range r.IntN(s.productions + 1) {
		g.Productions = append(g.Productions, randomProduction(r, g, s.right, density))
	}
	return copyOf(g)
}

func randomProduction(r *rand.Rand, g api.Grammar, right, density int) api.Production {
	p := api.Production{Name: "p" + strconv.Itoa(len(g.Productions)), Left: r.IntN(len(g.Nonterminals)), If: randomSet(r, len(g.Conditions))}
	for range r.IntN(right + 1) {
		s := api.Symbol{Index: r.IntN(len(g.Nonterminals))}
		if t := r.IntN(len(g.Tokens) + 1); r.IntN(6) < density && t < len(g.Tokens) && g.Tokens[t].Class == api.Ordinary {
			s = api.Symbol{Token: true, Index: t}
		}
		p.Right = append(p.Right, s)
	}
	return p
}

// configurations returns the configurations of the family of a grammar with few conditions.
func configurations(g api.Grammar) []api.Config {
	var list []api.Config
	for c := range api.Config(1) << len(g.Conditions) {
		if diagram.Holds(g.Family, c) {
			list = append(list, c)
		}
	}
	return list
}
