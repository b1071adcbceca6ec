package forest_test

import (
	"slices"
	"strconv"
	"strings"
	"testing"

	"koine/api"
	"koine/diagram"
	"koine/forest"
	"koine/scanner"
	"koine/tree"
)

// manyWords returns a text of n words, each of one byte.
func manyWords(n int) string { return strings.Repeat("a", n) + "\n" }

// K1, K4: sums, whose numbers of trees are those of Catalan.
func TestSums(t *testing.T) {
	g := grammarOf(0, words("a", "+"), "E = a", "E = E + E")
	for operands, want := range []int{0, 1, 1, 2, 5, 14, 42, 132, 429, 1430, 4862} {
		if operands == 0 {
			continue
		}
		x := textScan(g, strings.Repeat("a+", operands-1)+"a\n")
		f := built(t, g, x)
		if len(f.Nodes) != operands*(operands+1)/2 {
			t.Errorf("%d operands: %d nodes", operands, len(f.Nodes))
		}
		list, complete := forest.Trees(f, 0, want)
		if len(list) != want || !complete {
			t.Errorf("%d operands: %d trees, %v, want %d", operands, len(list), complete, want)
		}
		if _, complete := forest.Trees(f, 0, want-1); complete {
			t.Errorf("%d operands: there are only %d trees", operands, want-1)
		}
		p := scanner.Select(x, 0)
		for i, y := range list {
			if tree.Check(g, 0, p, y) != api.OK || i > 0 && tree.Compare(g, list[i-1], y) != -1 {
				t.Fatalf("%d operands: tree %d is %v", operands, i, y)
			}
		}
	}
}

// K1, K4: texts with very many trees.
func TestManyTrees(t *testing.T) {
	for _, c := range []struct {
		lines       []string
		text        string
		nodes, root int // how many nodes there are, and how many alternatives the root has
	}{
		{[]string{"E = a", "E = E + E"}, strings.Repeat("a+", 99) + "a\n", 100 * 101 / 2, 99},
		{[]string{"S = S S", "S = a", "S = b"}, manyWords(100), 100 * 101 / 2, 99},
		{[]string{"S = S S S", "S = a"}, manyWords(41), 21 * 21, 19*20/2 + 20},
		{[]string{"S = T T", "T = a T", "T = a", "T = a a T"}, manyWords(100), 100 * 101 / 2, 99},
		{[]string{"S = N N N N N N N N N N N N N N N N", "N = a", "N ="}, manyWords(8), 1 + 9 + 8, 12870},
	} {
		g := grammarOf(0, words("a", "b", "+"), c.lines...)
		x := textScan(g, c.text)
		f := built(t, g, x)
		if e := forest.Check(g, f); e != api.OK {
			t.Errorf("%v: error %d", c.lines, e)
		}
		last := f.Nodes[f.Roots[0].Node]
		if len(f.Nodes) != c.nodes || len(last.Alternatives) != c.root {
			t.Errorf("%v: %d nodes, %d alternatives of the root", c.lines, len(f.Nodes), len(last.Alternatives))
		}
		list, complete := forest.Trees(f, 0, 500)
		if len(list) != 500 || complete {
			t.Fatalf("%v: %d trees, %v", c.lines, len(list), complete)
		}
		p := scanner.Select(x, 0)
		for i, y := range list {
			if i%50 == 0 && tree.Check(g, 0, p, y) != api.OK || i > 0 && tree.Compare(g, list[i-1], y) != -1 {
				t.Fatalf("%v: tree %d is %v", c.lines, i, y)
			}
		}
		if again, _ := forest.Trees(f, 0, 200); !sameTrees(again, list[:200]) {
			t.Errorf("%v: the first 200 trees differ from the first 500", c.lines)
		}
		if s := forest.Select(f, 5); !sameForest(s, f) {
			t.Errorf("%v: the part of a configuration differs", c.lines)
		}
	}
}

// K1: productions of which nearly all ways lead to nothing.
func TestDeadEnds(t *testing.T) {
	long := strings.Repeat(" X", api.MaxSymbols-1)
	g := grammarOf(0, words("a", "b", "c"), "S = L", "S ="+long+" b", "S = b"+long, "L = a L", "L = c", "X = a", "X = X a", "X =")
	g.Productions = g.Productions[:7]
	f := built(t, g, textScan(g, strings.Repeat("a", 120)+"c\n"))
	if len(f.Nodes) != 122 {
		t.Errorf("%d nodes", len(f.Nodes))
	}
	expectTreeCount(t, f, 1)
}

// expectTreeCount fails unless a forest has a number of trees for configuration 0.
func expectTreeCount(t *testing.T, f api.Forest, want int) {
	t.Helper()
	if list, complete := forest.Trees(f, 0, want); len(list) != want || !complete {
		t.Errorf("%d trees, %v, want %d", len(list), complete, want)
	}
}

// K2, K3, K4, K5: a node with very many trees next to one without trees.
func TestNoTrees(t *testing.T) {
	const levels = 60
	var f api.Forest
	for i := range levels {
		// Node i has 2^i trees.
		m := node(0, 0, 0, alternative(all(), 0), alternative(all(), 1))
		if i > 0 {
			m.Alternatives = []api.Alternative{alternative(all(), 0, kid(i-1, 0, 0)), alternative(all(), 1, kid(i-1, 0, 0))}
		}
		f.Nodes = append(f.Nodes, copyNumber(i, m))
	}
	dead := levels // without A, it has no tree
	f.Nodes = append(f.Nodes, node(1, 0, 0, alternative(set("A"), 2)))
	top := kid(levels-1, 0, 0)
	f.Nodes = append(f.Nodes, node(2, 0, 0, alternative(all(), 0, top, top, top, kid(dead, 0, 0)), alternative(all(), 1, kid(dead, 0, 0), top), alternative(set("!A && B"), 2)))
	f.Roots = []api.Root{root(dead+1, all())}
	if e := forest.Check(api.Grammar{Nonterminals: []string{"S"}, Family: all()}, f); e != api.ErrForest {
		t.Errorf("error %d", e)
	}
	expectTrees(t, f, 0)
	expectTrees(t, f, 2, branch(2, 0, 0))
	for _, most := range []int{0, 1, 2, 100} {
		if list, complete := forest.Trees(f, 1, most); len(list) != most || complete {
			t.Errorf("%d trees, %v", len(list), complete)
		}
	}
	for i := range f.Nodes {
		want := set("A")
		if i == dead+1 {
			want = set("A || B")
		}
		if d := where(t, f, i); !diagram.Same(d, want) {
			t.Errorf("node %d is in trees of %v", i, d)
		}
	}
	if s := selected(t, f, 2); len(s.Nodes) != 1 || len(s.Nodes[0].Alternatives) != 1 {
		t.Errorf("the part is %v", s)
	}
	if s := selected(t, f, 0); len(s.Nodes) > 0 || len(s.Roots) > 0 {
		t.Errorf("the part is %v", s)
	}
}

// A manner is a way in which a raw forest becomes large.
type manner struct {
	name  string
	lines []string
	text  string
	nodes int // or 0 if the chart has too many spans
	trees int
}

// chain returns productions by which n nonterminals lead from one to the next one, and the last one to the given right sides.
func chain(n int, ends ...string) []string {
	var lines []string
	for i := range n - 1 {
		lines = append(lines, "N"+strconv.Itoa(i)+" = N"+strconv.Itoa(i+1))
	}
	for _, e := range ends {
		lines = append(lines, "N"+strconv.Itoa(n-1)+" = "+e)
	}
	return lines
}

// K1 to K5, R9: forests with as many nodes as there can be, and charts with more spans.
func TestLargeForests(t *testing.T) {
	const half = api.MaxForest / 2
	for _, m := range []manner{
		{"to the right", chain(2, "a N0", "b"), strings.Repeat("a", half-1) + "b\n", 2 * half, 1},
		{"to the right", chain(2, "a N0", "b"), strings.Repeat("a", half) + "b\n", 0, 0},
		{"to the left", chain(2, "N0 a", "b"), "b" + strings.Repeat("a", half/4-1) + "\n", half / 2, 1},
		{"to both sides", chain(2, "a N0 a", "b"), strings.Repeat("a", half/8) + "b" + strings.Repeat("a", half/8) + "\n", half/4 + 2, 1},
		{"chains", chain(api.MaxProductions-1, "a N0", "b"), strings.Repeat("a", 249) + "b\n", 250 * (api.MaxProductions - 1), 1},
		{"unused spans", []string{"S = S a", "S = a"}, manyWords(1999), 1999, 1},
	} {
		g := grammarOf(0, words("a", "b"), m.lines...)
		f, e := forest.Build(g, textScan(g, m.text))
		if m.nodes == 0 {
			if e != api.ErrLarge || len(f.Nodes) > 0 {
				t.Errorf("%s: %d nodes, error %d", m.name, len(f.Nodes), e)
			}
			continue
		}
		if e != api.OK || len(f.Nodes) != m.nodes {
			t.Errorf("%s: %d nodes, error %d", m.name, len(f.Nodes), e)
			continue
		}
		if e := forest.Check(g, f); e != api.OK {
			t.Errorf("%s: error %d", m.name, e)
		}
		expectTreeCount(t, f, m.trees)
		if s := forest.Select(f, 0); !sameForest(s, f) {
			t.Errorf("%s: the part of a configuration differs", m.name)
		}
		if d := forest.Where(f, m.nodes/2); !diagram.Same(d, all()) {
			t.Errorf("%s: a node is in trees of %v", m.name, d)
		}
	}
}

// line returns a forest of n nodes between the same gaps, each of which has the next one as its kid.
func line(n int) api.Forest {
	f := api.Forest{Nodes: make([]api.ForestNode, n), Roots: []api.Root{root(0, all())}}
	for i := range f.Nodes {
		f.Nodes[i] = copyNumber(i, node(0, 3, 3, alternative(all(), 0, kid(i+1, 3, 3))))
	}
	f.Nodes[n-1].Alternatives[0] = alternative(all(), 1)
	return f
}

// K2 to K5, R9: a forest with as many nodes as there can be, and with one more, as deep as they are large.
func TestDeepest(t *testing.T) {
	g := grammarOf(2, words("a"), "S = S", "S =")
	g.Productions[0].If = none()
	f := line(api.MaxForest)
	if e := forest.Check(g, f); e != api.ErrForest {
		t.Errorf("error %d", e)
	}
	list, complete := forest.Trees(f, 0, 2)
	if len(list) != 1 || !complete || len(list[0]) != api.MaxForest || list[0][api.MaxForest-1].Production != 1 {
		t.Errorf("%d trees, %v", len(list), complete)
	}
	if s := forest.Select(f, 0); !sameForest(s, f) {
		t.Error("the part of a configuration differs")
	}
	if d := forest.Where(f, api.MaxForest-1); !diagram.Same(d, all()) {
		t.Errorf("the last node is in trees of %v", d)
	}
	// The last node has the first one as a kid, in no configuration in which it is reached from there.
	f.Nodes[7].Alternatives[0].If = set("A")
	f.Nodes[7].Alternatives = append(f.Nodes[7].Alternatives, alternative(all(), 1))
	last := &f.Nodes[api.MaxForest-1]
	last.Alternatives = []api.Alternative{alternative(set("!A"), 0, kid(0, 3, 3)), alternative(set("B"), 1)}
	f.Roots = append(f.Roots, root(api.MaxForest-1, all()))
	for c, want := range []int{2, 1, 3, 3} {
		list, complete := forest.Trees(f, api.Config(c), 4)
		if len(list) != want || !complete {
			t.Errorf("configuration %d: %d trees, %v, want %d", c, len(list), complete, want)
		}
	}
	for i, want := range map[int]string{0: "true", 7: "true", 8: "A && B", api.MaxForest - 1: "!A || B"} {
		if d := forest.Where(f, i); !diagram.Same(d, set(want)) {
			t.Errorf("node %d is in trees of %v, want %s", i, d, want)
		}
	}
	last.Alternatives[0].If = all()
	if list, complete := forest.Trees(f, 0, 4); len(list) > 0 || complete {
		t.Errorf("a circle: %d trees, %v", len(list), complete)
	}
	f = line(api.MaxForest + 1)
	list, complete = forest.Trees(f, 0, 2)
	s, d := forest.Select(f, 0), forest.Where(f, 0)
	if len(list) > 0 || complete || len(s.Nodes) > 0 || !diagram.Same(d, none()) {
		t.Errorf("too many nodes: %d trees, %v, a part of %d nodes, in trees of %v", len(list), complete, len(s.Nodes), d)
	}
	if e := forest.Check(g, f); e != api.ErrLarge {
		t.Errorf("too many nodes: error %d", e)
	}
}

// K1, R9: as many productions and tokens as there can be.
func TestLargeGrammars(t *testing.T) {
	// Each word can be one of many tokens.
	a := api.Pattern{{Kind: api.PatternRange, Lo: 'a', Hi: 'a'}}
	var tokens []api.Token
	lines := []string{"S = T S", "S = T", "T = t0"}
	for i := range api.MaxTokens - 1 {
		tokens = append(tokens, api.Token{Name: "t" + strconv.Itoa(i), Pattern: a, Sample: "a", If: all()})
		if i > 0 {
			lines = append(lines, "T = t"+strconv.Itoa(i))
		}
	}
	tokens = append(tokens, api.Token{Name: "line", Class: api.Layout, Literal: "\n", If: all()})
	g := grammarOf(0, tokens, lines...)
	f := built(t, g, textScan(g, manyWords(200)))
	if len(f.Nodes) != 400 || len(f.Nodes[0].Alternatives) != api.MaxTokens-1 {
		t.Errorf("%d nodes, %d alternatives", len(f.Nodes), len(f.Nodes[0].Alternatives))
	}
	if list, complete := forest.Trees(f, 0, 1000); len(list) != 1000 || complete || list[999][len(list[999])-1].Token != 999%255 {
		t.Errorf("%d trees, %v", len(list), complete)
	}
	// Of many productions, few fit.
	lines = []string{"S = T S", "S = c", "T = a"}
	for i := range api.MaxProductions - 3 {
		lines = append(lines, []string{"S", "T"}[i%2]+" ="+strings.Repeat(" b", 1+i/2%15)+" a")
	}
	g = grammarOf(0, words("a", "b", "c"), lines...)
	f, e := forest.Build(g, textScan(g, strings.Repeat("a", 20000)+"c\n"))
	if e != api.OK || len(f.Nodes) != 40001 {
		t.Errorf("%d nodes, error %d", len(f.Nodes), e)
	}
	// Many nonterminals lead to one.
	lines = nil
	for i := range 999 {
		lines = append(lines, "S = U"+strconv.Itoa(i), "U"+strconv.Itoa(i)+" = T :: "+[]string{"A", "!A", "B"}[i%3])
	}
	g = grammarOf(2, words("a"), append(lines, "T = a")...)
	f = built(t, g, textScan(g, "a\n"))
	if len(f.Nodes) != 1001 || len(f.Nodes[0].Alternatives) != 999 {
		t.Errorf("%d nodes, %d alternatives", len(f.Nodes), len(f.Nodes[0].Alternatives))
	}
	expectTreeCount(t, f, 333)
}

// optional returns a scan of n words of one byte, each in the configurations of a set.
func optional(n int, where func(i int) api.Diagram) api.Scan {
	x := api.Scan{Good: all(), End: n}
	for i := range n {
		x.Lexemes = append(x.Lexemes, lexeme(i, i+1, where(i), 0))
	}
	return x
}

// single returns the set of one configuration of n conditions.
func single(c, n int) api.Diagram {
	d := all()
	for v := n - 1; v >= 0; v-- {
		one := is(v)
		if c>>v&1 == 0 {
			one = not(one)
		}
		d = and(one, d)
	}
	return d
}

// K1 to K5, R9: 14 conditions never are too many.
func TestFourteenConditions(t *testing.T) {
	const n = 14
	// Each configuration has a word of its own.
	g := grammarOf(n, words("a"), "S = T", "T = a")
	x := optional(1<<n, func(i int) api.Diagram { return single(i, n) })
	f := built(t, g, x)
	if len(f.Nodes) != 2<<n || len(f.Roots) != 1<<n || forest.Check(g, f) != api.OK {
		t.Fatalf("%d nodes, %d roots, error %d", len(f.Nodes), len(f.Roots), forest.Check(g, f))
	}
	for _, c := range []int{0, 1, 77, 1<<n - 1} {
		list, complete := forest.Trees(f, api.Config(c), 2)
		if want := branch(0, c, x.End, branch(1, c, x.End, word(0, c, c+1))); !complete || !sameTrees(list, []api.Tree{want}) {
			t.Errorf("configuration %d: %v, %v", c, list, complete)
		}
		if d := forest.Where(f, 2*c); !diagram.Same(d, x.Lexemes[c].If) {
			t.Errorf("node %d is in trees of %v", 2*c, d)
		}
	}
	// The words depend on pairs of conditions, in the order in which their sets are largest.
	g = grammarOf(n, words("a"), "S = a S", "S =", "S = S a a")
	g.Productions[2].If = is(3)
	x = optional(14, func(i int) api.Diagram { return or(is(i%7), is(i%7+7)) })
	f = built(t, g, x)
	if e := forest.Check(g, f); e != api.OK {
		t.Errorf("error %d", e)
	}
	for _, c := range []api.Config{0, 1, 0b1000, 0b0101010_1001001, 1<<n - 1} {
		want, _ := treesOf(g, x, c, many)
		got, complete := forest.Trees(f, c, len(want))
		if !complete || !sameTrees(got, sorted(g, want)) {
			t.Errorf("configuration %d: %d trees, %v, want %d", c, len(got), complete, len(want))
		}
	}
	// A circle whose set has as many branches as can be.
	where := all()
	for v := range n / 2 {
		where = and(where, sure(diagram.Xor(is(v), is(v+n/2))))
	}
	x2 := ring(not(where), where, all())
	if list, complete := forest.Trees(x2, 2, 3); len(list) == 0 || !complete {
		t.Errorf("a ring: %d trees, %v", len(list), complete)
	}
	x2.Nodes[0].Alternatives[1].If = or(not(where), single(1<<7-1, n))
	if list, complete := forest.Trees(x2, 2, 3); len(list) > 0 || complete {
		t.Errorf("a circle in one configuration: %d trees, %v", len(list), complete)
	}
}

// K1 to K5, R9: with more than 14 conditions, sets can be too large, or not.
func TestManyConditions(t *testing.T) {
	const n = api.MaxConditions
	g := grammarOf(n, words("a"), "S = a S", "S = a")
	x := optional(n, is)
	f := built(t, g, x)
	if e := forest.Check(g, f); e != api.OK || len(f.Nodes) != n || len(f.Roots) != n {
		t.Fatalf("%d nodes, %d roots, error %d", len(f.Nodes), len(f.Roots), e)
	}
	for i := range n {
		if d := forest.Where(f, i); !diagram.Same(d, is(i)) {
			t.Errorf("node %d is in trees of %v", i, d)
		}
	}
	list, complete := forest.Trees(f, 1<<3|1<<40|1<<63, 2)
	want := branch(0, 3, n, word(0, 3, 4), branch(0, 40, n, word(0, 40, 41), branch(1, 63, n, word(0, 63, 64))))
	if !complete || !sameTrees(list, []api.Tree{want}) {
		t.Errorf("%v, %v", list, complete)
	}
	// Which word is the first one depends on 15 pairs of conditions.
	x = optional(15, func(i int) api.Diagram { return and(is(i), is(i+15)) })
	if f, e := forest.Build(g, x); e != api.ErrLarge || len(f.Nodes) > 0 {
		t.Errorf("%d nodes, error %d", len(f.Nodes), e)
	}
	// So does where kids lead in a circle.
	r := api.Forest{Roots: []api.Root{root(0, all())}}
	for i := range 16 {
		m := node(0, 0, 0, alternative(is(i), 0, kid((i+1)%16, 0, 0)), alternative(is(i+15), 1, kid((i+1)%16, 0, 0)))
		r.Nodes = append(r.Nodes, copyNumber(i, m))
	}
	r.Nodes[15].Alternatives = []api.Alternative{alternative(all(), 0, kid(0, 0, 0))}
	g = grammarOf(n, words("a"), "S = S T", "S = S T", "T = a")
	g.Productions[0].Right, g.Productions[1].Right = []api.Symbol{{}}, []api.Symbol{{}, {}}
	if e := forest.Check(g, r); e != api.ErrCycle {
		t.Fatalf("error %d", e)
	}
	if list, complete := forest.Trees(r, 0, 1); len(list) > 0 || complete {
		t.Errorf("%v, %v", list, complete)
	}
	// The other way round, each node is in few configurations.
	for i := range 16 {
		r.Nodes[i].Alternatives = []api.Alternative{alternative(and(is(i), not(is(i+1))), 0, kid((i+1)%16, 0, 0)), alternative(is(i+30), 1)}
	}
	if list, complete := forest.Trees(r, 0b0111|0b10101<<30, 9); len(list) != 1 || !complete {
		t.Errorf("%v, %v", list, complete)
	}
}

// K2, K4: long rings that are not circles.
func TestLongRings(t *testing.T) {
	const n = 100000
	f := line(n)
	for i := range f.Nodes {
		a := alternative(set([]string{"A", "B", "C && A"}[i%3]), 0, kid((i+1)%n, 3, 3))
		f.Nodes[i].Alternatives = []api.Alternative{a, alternative(all(), 1)}
	}
	f.Nodes[n/2].Alternatives[0].If = set("!A || !C")
	list, complete := forest.Trees(f, 0b111, 3)
	if len(list) != 3 || complete || len(list[0]) != n/2+1 || list[0][n/2].Production != 1 {
		t.Errorf("%d trees, %v", len(list), complete)
	}
	f.Nodes[n/2].Alternatives[0].If = set("!A || !C || D")
	if list, complete := forest.Trees(f, 0, 1); len(list) > 0 || complete {
		t.Errorf("a circle: %v, %v", list, complete)
	}
	if slices.ContainsFunc([]int{0, n / 2, n - 1}, func(i int) bool { return !diagram.Same(forest.Where(f, i), none()) }) {
		t.Error("a node of a circle is in trees")
	}
}
