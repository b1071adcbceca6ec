package grammar_test

import (
	"math"
	"math/rand/v2"
	"reflect"
	"slices"
	"testing"

	"koine/api"
	"koine/diagram"
	"koine/grammar"
)

// expectSame fails unless Same says of two grammars, in both orders, what reflection says.
func expectSame(t *testing.T, a, b api.Grammar) bool {
	t.Helper()
	want := equal(a, b)
	if grammar.Same(a, b) != want || grammar.Same(b, a) != want {
		t.Fatalf("Same is not %v for %v and %v", want, a, b)
	}
	return want
}

// P5.1, E2: each change of a single number, bool, string or list is noticed, in valid grammars and in others.
func TestSameFields(t *testing.T) {
	g := copyOf(rich())
	other := rich()
	if !grammar.Same(g, other) || !grammar.Same(g, g) || !grammar.Same(api.Grammar{}, api.Grammar{}) {
		t.Fatal("equal grammars are not the same")
	}
	for _, v := range leaves(reflect.ValueOf(&g).Elem()) {
		old := reflect.New(v.Type()).Elem()
		old.Set(v)
		switch v.Kind() {
		case reflect.Int:
			for _, n := range append(extremes(), int(old.Int())+1, int(old.Int())-1, int(old.Int())+128) {
				v.SetInt(int64(n))
				expectSame(t, g, other)
			}
		case reflect.Bool:
			v.SetBool(!v.Bool())
			expectSame(t, g, other)
		case reflect.String:
			for _, s := range []string{"", "x", "true", v.String() + "\x00", "\x00" + v.String()} {
				v.SetString(s)
				expectSame(t, g, other)
			}
		case reflect.Slice:
			v.Set(reflect.Append(old, reflect.Zero(v.Type().Elem())))
			if expectSame(t, g, other) {
				t.Fatal("a longer list is equal")
			}
			if n := old.Len(); n > 0 {
				v.Set(old.Slice(0, n-1))
				if expectSame(t, g, other) {
					t.Fatal("a shorter list is equal")
				}
			}
		}
		v.Set(old)
		if !grammar.Same(g, other) {
			t.Fatal("a repaired grammar is not the same")
		}
	}
}

// P5.1, E2, R5: random grammars, changed ones, and those that are not valid.
func TestSameRandom(t *testing.T) {
	r := rand.New(rand.NewPCG(5, 4))
	same := 0
	for range 2000 {
		a, b := randomGrammar(r, r.IntN(4)), randomGrammar(r, r.IntN(4))
		expectSame(t, a, b)
		c := copyOf(a)
		if !expectSame(t, a, c) {
			t.Fatal("a copy is not equal")
		}
		for range 1 + r.IntN(2) {
			mutate(r, &c)
		}
		d := copyOf(c)
		if expectSame(t, a, d) {
			same++
		}
		unchanged(t, d, c)
	}
	if same == 0 || same == 2000 {
		t.Errorf("%d of 2000 changed grammars are the same", same)
	}
}

// P5.1, E2: equal contents in other places are not equal.
func TestSamePlaces(t *testing.T) {
	for i, x := range [][2]api.Grammar{
		{{Conditions: []string{"A"}}, {Nonterminals: []string{"A"}}},
		{{Conditions: []string{"A", ""}}, {Conditions: []string{"", "A"}}},
		{{Conditions: []string{"AB"}}, {Conditions: []string{"A", "B"}}},
		{{Conditions: []string{"A\x01B"}}, {Conditions: []string{"A", "B"}}},
		{{Nonterminals: []string{"", ""}}, {Nonterminals: []string{""}}},
		{{Start: 0}, {Start: -1}},
		{{Start: math.MinInt}, {Start: math.MaxInt}},
		{{Family: all()}, {Family: none()}},
		{{Levels: []api.Level{{Productions: []int{1}}}}, {Levels: []api.Level{{Assoc: 1}}}},
		{{Productions: []api.Production{{Rank: -1}}}, {Productions: []api.Production{{Rank: math.MaxInt}}}},
		{{Productions: []api.Production{{Rank: math.MinInt}}}, {Productions: []api.Production{{Rank: math.MaxInt}}}},
		{{Tokens: []api.Token{{Name: "x"}}}, {Tokens: []api.Token{{Literal: "x"}}}},
		{{Filters: []api.Filter{{Tokens: []int{0}}}}, {Filters: []api.Filter{{Tokens: []int{}}}}},
	} {
		if expectSame(t, x[0], x[1]) {
			t.Errorf("pair %d is equal", i)
		}
	}
	empty := api.Grammar{Conditions: []string{}, Family: api.Diagram{Nodes: []api.Branch{}}, Tokens: []api.Token{}, Nonterminals: []string{}, Productions: []api.Production{}, Levels: []api.Level{}, Filters: []api.Filter{}}
	if !grammar.Same(empty, api.Grammar{}) {
		t.Error("empty lists are not equal to nil ones")
	}
	a := plain()
	a.Productions[0].Right, a.Productions[0].Layout, a.Productions[0].If.Nodes = []api.Symbol{}, []api.Constraint{}, []api.Branch{}
	if !grammar.Same(a, plain()) {
		t.Error("empty lists inside are not equal to nil ones")
	}
}

// P5.1, E3: a configuration of a valid grammar is in the family and has no bit beyond the conditions.
func TestIn(t *testing.T) {
	r := rand.New(rand.NewPCG(5, 5))
	for range 500 {
		n := r.IntN(6)
		g := randomGrammar(r, n)
		for c := range api.Config(1 << (n + 2)) {
			want := c < 1<<n && diagram.Holds(g.Family, c)
			if grammar.In(g, c) != want {
				t.Fatalf("In of %v, %d is not %v", g, c, want)
			}
			for _, high := range []int{n, 40, 63} {
				if grammar.In(g, c|1<<high) && (c|1<<high)>>n != 0 {
					t.Fatalf("In of %v, %d with bit %d", g, c, high)
				}
			}
		}
	}
	g := plain()
	g.Conditions = sixtyFour()
	for _, c := range []api.Config{0, 1, 1 << 63, math.MaxUint64} {
		if !grammar.In(g, c) {
			t.Errorf("In with all conditions, %d", c)
		}
		if grammar.In(plain(), c) != (c == 0) {
			t.Errorf("In without conditions, %d", c)
		}
	}
	g.Start = 1
	if grammar.In(g, 0) || grammar.In(api.Grammar{}, 0) {
		t.Error("In of a grammar that is not valid")
	}
}

// fixed returns the grammar of a configuration by the sentence of E4.
func fixed(g api.Grammar, c api.Config) api.Grammar {
	g = copyOf(g)
	at := func(d *api.Diagram) {
		if diagram.Holds(*d, c) {
			*d = all()
		} else {
			*d = none()
		}
	}
	g.Conditions = nil
	g.Family = all()
	for i := range g.Tokens {
		at(&g.Tokens[i].If)
	}
	for i := range g.Productions {
		at(&g.Productions[i].If)
	}
	for i := range g.Levels {
		at(&g.Levels[i].If)
	}
	for i := range g.Filters {
		at(&g.Filters[i].If)
	}
	return g
}

// P5.1, P5.2, E4, R6: the grammar of each configuration.
func TestAt(t *testing.T) {
	r := rand.New(rand.NewPCG(5, 6))
	for i := range 300 {
		g := rich()
		if i > 0 {
			g = randomGrammar(r, r.IntN(5))
		}
		argument := copyOf(g)
		for c := range api.Config(2) << len(g.Conditions) {
			h, e := grammar.At(argument, c)
			if !grammar.In(g, c) {
				if e != api.ErrArg || !zero(h) {
					t.Fatalf("At outside the family = %v, %v", h, e)
				}
				continue
			}
			if e != api.OK || !equal(h, fixed(g, c)) {
				t.Fatalf("At(%v, %d) = %v, %v", g, c, h, e)
			}
			separate(t, h, argument)
			single(t, h, g, c)
		}
		unchanged(t, argument, g)
	}
}

// single fails unless h has the properties that the grammar of a configuration c of g must have.
func single(t *testing.T, h, g api.Grammar, c api.Config) {
	t.Helper()
	l, ok := grammar.Configs(h, 10)
	if grammar.Check(h) != api.OK || !slices.Equal(l, []api.Config{0}) || !ok || !grammar.In(h, 0) || grammar.In(h, 1) {
		t.Fatalf("the grammar of %d has the configurations %v", c, l)
	}
	if len(h.Tokens) != len(g.Tokens) || len(h.Nonterminals) != len(g.Nonterminals) || len(h.Productions) != len(g.Productions) {
		t.Fatal("other numbers of elements")
	}
	for i, p := range h.Productions {
		if diagram.Holds(p.If, 0) != diagram.Holds(g.Productions[i].If, c) {
			t.Fatalf("production %d in configuration %d", i, c)
		}
	}
	for i, x := range h.Tokens {
		if diagram.Holds(x.If, 0) != diagram.Holds(g.Tokens[i].If, c) {
			t.Fatalf("token %d in configuration %d", i, c)
		}
	}
	if again, e := grammar.At(h, 0); e != api.OK || !grammar.Same(again, h) {
		t.Fatalf("the grammar of the only configuration is %v, %v", again, e)
	}
}

// P5.1, E4, R4: the error of Check comes before ErrArg.
func TestAtErrors(t *testing.T) {
	for _, c := range []api.Config{0, 4, 8, 9, 1 << 63, math.MaxUint64} {
		if h, e := grammar.At(rich(), c); e != api.ErrArg || !zero(h) {
			t.Errorf("At(rich, %d) = %v, %v", c, h, e)
		}
		g := rich()
		g.Tokens[0].Name = ""
		if h, e := grammar.At(g, c); e != api.ErrToken || !zero(h) {
			t.Errorf("At(broken, %d) = %v, %v", c, h, e)
		}
	}
	if h, e := grammar.At(rich(), 7); e != api.OK || len(h.Conditions) != 0 || len(h.Tokens) != 8 {
		t.Errorf("At(rich, 7) = %v, %v", h, e)
	}
	g := plain()
	g.Conditions, g.Productions[0].If = sixtyFour(), is(63)
	for _, c := range []api.Config{1<<63 - 1, 1 << 63, math.MaxUint64} {
		h, e := grammar.At(g, c)
		if e != api.OK || diagram.Holds(h.Productions[0].If, 0) != (c >= 1<<63) {
			t.Errorf("At with all conditions, %d: %v, %v", c, h, e)
		}
	}
}
