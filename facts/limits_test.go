package facts_test

import (
	"math/rand/v2"
	"reflect"
	"slices"
	"strconv"
	"testing"

	"koine/api"
	"koine/diagram"
	"koine/facts"
)

// large returns a grammar with as many tokens and nonterminals as there can be, and a production for each nonterminal: production i derives nonterminal i.
func large(conditions int, right func(i int) []api.Symbol, set func(i int) api.Diagram) api.Grammar {
	g := made(conditions, api.MaxTokens, api.MaxProductions)
	for i := range g.Nonterminals {
		g.Productions = append(g.Productions, api.Production{Name: "p" + strconv.Itoa(i), Left: i, Right: right(i), If: set(i)})
	}
	return g
}

func always(int) api.Diagram { return all() }

func toNext(by int) func(i int) []api.Symbol {
	return func(i int) []api.Symbol {
		return []api.Symbol{{Index: (i + by + api.MaxProductions) % api.MaxProductions}}
	}
}

// repeated returns a list of n equal sets.
func repeated(d api.Diagram, n int) []api.Diagram {
	list := make([]api.Diagram, n)
	for i := range list {
		list[i] = d
	}
	return list
}

// P6.1: chains and rings through all nonterminals, in both directions.
func TestChains(t *testing.T) {
	const n = api.MaxProductions
	for _, by := range []int{1, -1} {
		g := large(1, toNext(by), always)
		r := results(t, g)
		expectSets(t, "Cyclic in a ring", r.cyclic, repeated(all(), n)...)
		expectSets(t, "Productive in a ring", r.productive, repeated(none(), n)...)
		expectSets(t, "Useful in a ring", r.useful, repeated(none(), n)...)

		last := 0 // the end of the chain from its start
		if g.Start = n - 1; by == 1 {
			last, g.Start = n-1, 0
		}
		g.Productions[last].Right = symbols("b")
		g.Productions[n/2].If = is(0)
		r = results(t, g)
		want := repeated(all(), n)
		for i := n / 2; i >= 0 && i < n; i -= by {
			want[i] = is(0)
		}
		expectSets(t, "Productive in a chain", r.productive, want...)
		expectSets(t, "Useful in a chain", r.useful, repeated(is(0), n)...)
		expectSets(t, "Cyclic in a chain", r.cyclic, repeated(none(), n)...)
		for i, row := range r.first {
			if !diagram.Same(row[1], want[i]) || !diagram.Same(row[0], none()) {
				t.Fatalf("First of nonterminal %d = %v", i, row[:2])
			}
		}
		g.Productions[last].Right = nil
		expectSets(t, "Nullable in a chain", results(t, g).nullable, want...)
	}
}

// P6.1: rings that other ones touch, with as many symbols as there can be.
func TestDense(t *testing.T) {
	const n = 400
	g := made(3, 0, n)
	for i := range g.Nonterminals {
		p := api.Production{Name: "p" + strconv.Itoa(i), Left: i, If: is(i % 3)}
		for k := range api.MaxSymbols {
			p.Right = append(p.Right, api.Symbol{Index: (i + 1 + k*k*k) % n})
		}
		g.Productions = append(g.Productions, p)
		if i%5 != 0 {
			p.Name, p.Right, p.If = "q"+strconv.Itoa(i), nil, is((i+1)%3)
			g.Productions = append(g.Productions, p)
		}
	}
	expectAnswersAt(t, g, 0, 3, 5, 7)
}

// expectAnswersAt compares what the functions return with an authority in some configurations.
func expectAnswersAt(t *testing.T, g api.Grammar, configs ...api.Config) {
	t.Helper()
	r := results(t, g)
	for _, c := range configs {
		if !diagram.Holds(g.Family, c) {
			continue
		}
		if got, want := r.at(g, c), rounds(g, c); !reflect.DeepEqual(got, want) {
			t.Fatalf("in configuration %d, got %v, want %v", c, got, want)
		}
	}
}

// table returns a random set of configurations of n conditions, as wide as sets of so many are.
func table(r *rand.Rand, n int) api.Diagram {
	var d api.Diagram
	numbers := map[api.Branch]int{}
	var build func(v int) int
	build = func(v int) int {
		if v == n {
			return r.IntN(2)
		}
		low := build(v + 1)
		b := api.Branch{Var: v, Low: low, High: build(v + 1)}
		if b.Low == b.High {
			return low
		}
		if numbers[b] == 0 {
			d.Nodes = append(d.Nodes, b)
			numbers[b] = len(d.Nodes) + 1
		}
		return numbers[b]
	}
	d.Root = build(0)
	return d
}

// R9: with 14 conditions, no set is too large.
func TestWideSets(t *testing.T) {
	r := rand.New(rand.NewPCG(6, 9))
	for range 2 {
		g := randomGrammar(r, size{0, 3, 5, 14, 3})
		for i := range 14 {
			g.Conditions = append(g.Conditions, "C"+strconv.Itoa(i))
		}
		g.Family = table(r, 14)
		for i := range g.Tokens {
			g.Tokens[i].If = table(r, 14)
		}
		for i := range g.Productions {
			g.Productions[i].If = table(r, 14)
		}
		if wide := len(g.Family.Nodes); wide < 2000 {
			t.Fatalf("the family has %d branches only", wide)
		}
		configs := []api.Config{0, 1<<14 - 1}
		for range 200 {
			configs = append(configs, api.Config(r.IntN(1<<14)))
		}
		expectAnswersAt(t, g, configs...)
	}
}

// P6.1: 64 conditions, as long as the sets are small.
func TestManyConditions(t *testing.T) {
	const n = api.MaxConditions
	right := func(i int) []api.Symbol {
		if i >= n {
			return symbols("a")
		}
		return slices.Concat(symbols("B")[:i%2], []api.Symbol{{Index: (i + 1) % n}})
	}
	g := large(n, right, func(i int) api.Diagram { return is(i % n) })
	g.Productions[1].Right = nil
	union, meet := none(), all()
	for i := range n {
		union, meet = or(union, is(i)), and(meet, is(i))
	}
	r := results(t, g)
	expectSets(t, "Cyclic", r.cyclic[:2], none(), none())
	g.Productions[1].Right = symbols("C")
	g.Productions = append(g.Productions[:n], api.Production{Name: "empty", Left: 1, If: all()})
	r = results(t, g)
	expectSets(t, "Cyclic in a ring", r.cyclic[:n], repeated(meet, n)...)
	for i := range g.Productions[:n] {
		g.Productions[i].Left, g.Productions[i].Right = 0, symbols("a")
	}
	r = results(t, g)
	expectSets(t, "Productive", r.productive[:2], union, all())
	expectSets(t, "First", r.first[0][:2], union, none())
}

// R9: sets with too many branches lead to an error and to no result; functions that need none of them return theirs.
func TestTooWideSets(t *testing.T) {
	lines := []line{{"B", "", all()}}
	for i := range 32 {
		lines = append(lines, line{"A", "a", and(is(i), is(i+32))})
	}
	g := made(64, 1, 2, lines...)
	if e := facts.Check(g); e != api.OK {
		t.Errorf("Check = %v", e)
	}
	expectSets(t, "Nullable", sure(facts.Nullable(g)), none(), all())
	expectSets(t, "Cyclic", sure(facts.Cyclic(g)), none(), none())
	if l, e := facts.Productive(g); e != api.ErrLarge || len(l) > 0 {
		t.Errorf("Productive = %d sets, %v", len(l), e)
	}
	if l, e := facts.First(g); e != api.ErrLarge || len(l) > 0 {
		t.Errorf("First = %d rows, %v", len(l), e)
	}
	for i := range g.Productions[1:] {
		g.Productions[i+1].Right = nil
	}
	if l, e := facts.Nullable(g); e != api.ErrLarge || len(l) > 0 {
		t.Errorf("Nullable = %d sets, %v", len(l), e)
	}
	g.Productions[0].Left, g.Productions[0].Right = 0, symbols("AA")
	expectError(t, "a cycle in too large a set", g, api.ErrLarge)
}
