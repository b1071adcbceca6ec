package restrict_test

import (
	"slices"
	"strconv"
	"testing"

	"koine/api"
	"koine/diagram"
	"koine/restrict"
)

// nested returns a tree of n words inside one another: word i is child 0 of a node of production 1, and the others are child 1; the last word is the child of a node of production 0. Each word is the first on its line, and further to the right than the one before.
func nested(n int) (api.Plain, api.Tree) {
	p, x := api.Plain{End: 2 * n, Stuck: -1}, make(api.Tree, 0, 2*n)
	for i := range n {
		p.Words = append(p.Words, api.Word{From: 2 * i, To: 2*i + 1, Column: i, First: true, Tokens: []int{0}})
		x = append(x, api.Node{Production: 1, Token: -1, From: 2 * i, To: p.End}, api.Node{Production: -1, From: 2 * i, To: 2*i + 1})
	}
	x[2*n-2].Production = 0
	return p, x
}

// TestLargestTree has trees with as many nodes as there can be, and with one more (N1, N2). Copying them would take long.
func TestLargestTree(t *testing.T) {
	const n = api.MaxForest / 2
	g := grammarOf(0, words("x", "y"), "S = x", "S = x S")
	g.Productions[1].Layout = []api.Constraint{offside(1), indent(0, 1)}
	for range api.MaxFilters {
		g.Filters = append(g.Filters, follow(0, 1), precede(0, 1))
	}
	g.Filters = g.Filters[:api.MaxFilters]
	p, x := nested(n)
	list, e := restrict.Violations(g, 0, p, x)
	if e != api.OK || len(list) > 0 || !restrict.Survives(g, 0, p, x) {
		t.Fatalf("%d violations, error %d", len(list), e)
	}
	// The last word is to the left of all, and all nodes with further words in their child 1 violate the constraint.
	p.Words[n-1].Column = 0
	g.Filters[4094] = follow(0, 0)
	g.Filters[4095] = precede(0, 0)
	list, e = restrict.Violations(g, 0, p, x)
	want := make([]api.Violation, 0, 2*n)
	for i := 1; i < n; i++ {
		want = append(want, precedes(2*i, 4095))
	}
	for i := range n - 2 {
		want = append(want, lays(2*i, 0))
	}
	want = append(want, lays(2*(n-2), 1))
	if e != api.OK || !slices.Equal(list, want) {
		t.Fatalf("%d violations, error %d, want %d", len(list), e, len(want))
	}
	p, x = nested(n + 1)
	if list, e := restrict.Violations(g, 0, p, x); e != api.ErrTree || len(list) > 0 || restrict.Survives(g, 0, p, x) {
		t.Errorf("more nodes: %d violations, error %d", len(list), e)
	}
}

// TestLongestList has a tree whose nodes lead down on the left, each before another word (N1).
func TestLongestList(t *testing.T) {
	const n = 500000
	g := grammarOf(0, words("x", "y"), "L = ", "L = L x")
	g.Productions[1].Layout = []api.Constraint{offside(0), sameLine(0, 1)}
	g.Filters = append(slices.Repeat([]api.Filter{follow(0, 1)}, api.MaxFilters-1), follow(0, 0))
	p := api.Plain{End: n, Stuck: -1}
	x := make(api.Tree, 0, 2*n+1)
	for i := range n {
		p.Words = append(p.Words, api.Word{From: i, To: i + 1, Column: i, First: i == 0, Tokens: []int{0}})
		x = append(x, api.Node{Production: 1, Token: -1, To: n - i})
	}
	x = append(x, node(0, 0, 0)...)
	for i := range n {
		x = append(x, leaf(0, i, i+1)...)
	}
	list, e := restrict.Violations(g, 0, p, x)
	if e != api.OK || len(list) != n {
		t.Fatalf("%d violations, error %d", len(list), e)
	}
	for i, v := range list {
		if v != follows(i+1, 4095) {
			t.Fatalf("violation %d: %v", i, v)
		}
	}
}

// TestMostRules has as many tokens, nonterminals, filters, children and constraints as there can be (N1).
func TestMostRules(t *testing.T) {
	var literals []string
	for i := range api.MaxTokens - 3 {
		literals = append(literals, "t"+strconv.Itoa(1000+i))
	}
	const last = api.MaxTokens - 4
	g := grammarOf(0, words(literals...), "S = N N N N N N N N N N N N N N N N", "N = t1000", "N = "+literals[last])
	g.Nonterminals = g.Nonterminals[:1]
	for i := 1; i < api.MaxProductions; i++ {
		g.Nonterminals = append(g.Nonterminals, "N"+strconv.Itoa(i))
	}
	const left = api.MaxProductions - 1
	g.Productions[1].Left, g.Productions[2].Left = left, left
	for i := range api.MaxSymbols {
		g.Productions[0].Right[i].Index = left
		g.Productions[0].Layout = append(g.Productions[0].Layout, align(i, 15))
	}
	tokens := make([]int, last+1)
	for i := range tokens {
		tokens[i] = i
	}
	g.Filters = append(slices.Repeat([]api.Filter{follow(left, tokens[1:]...)}, 4000), slices.Repeat([]api.Filter{precede(left, last)}, 95)...)
	g.Filters = append(g.Filters, precede(left, 0))
	p := api.Plain{Stuck: -1, End: 16}
	x := node(0, 0, 16)
	for i := range 16 {
		production, token := 1, 0
		if i >= 14 {
			production, token = 2, last
		}
		p.Words = append(p.Words, api.Word{From: i, To: i + 1, Column: i % 2, Tokens: []int{token}})
		x = append(x, node(production, i, i+1, leaf(token, i, i+1))...)
	}
	p.Words[14].Tokens = tokens
	expectViolations(t, g, 0, p, x, violationsOf(g, 0, p, x)...)
	if list := sure(violations(t, g, 0, p, x)); len(list) != 8000+14+1+95+8 {
		t.Errorf("%d violations", len(list))
	}
}

// TestManyConditions has filters that depend on many conditions (N1).
func TestManyConditions(t *testing.T) {
	g := twoLists()
	g.Conditions = names(64)
	odd := none()
	for v := range 64 {
		odd = sure(diagram.Xor(odd, is(v)))
	}
	g.Filters = []api.Filter{follow(1, 1), follow(1, 1), follow(1, 1)}
	g.Filters[0].If, g.Filters[1].If, g.Filters[2].If = is(63), odd, not(odd)
	p, x := plainOf(g, 0, "x;"), treesOf(g, 0, "x;")[0]
	expectViolations(t, g, 0, p, x, follows(1, 2))
	expectViolations(t, g, 1<<63, p, x, follows(1, 0), follows(1, 1))
	expectViolations(t, g, 1<<63|1<<40, p, x, follows(1, 0), follows(1, 2))
}
