package forest_test

import (
	"slices"
	"testing"

	"koine/api"
	"koine/chart"
	"koine/diagram"
	"koine/facts"
	"koine/scanner"
	"koine/tree"
)

// mostTrees is the number of trees up to which a random scan is used.
const mostTrees = 60

// A sample is a random grammar with a scan that has few trees in each configuration.
type sample struct {
	n       int
	grammar api.Grammar
	scan    api.Scan
}

// sample returns a sample. Most of those without any trees are left out.
func (g generator) sample() sample {
	for {
		s := sample{n: g.IntN(4)}
		s.grammar = g.grammar(s.n)
		if g.IntN(3) == 0 {
			s.n = 2 + g.IntN(2)
			s.grammar = g.chains(s.n)
		}
		s.scan = g.scan(s.grammar)
		few, some := true, false
		for _, c := range configsOf(s.scan.Good, s.n) {
			list, ok := treesOf(s.grammar, s.scan, c, mostTrees)
			few, some = few && ok, some || len(list) > 0
		}
		if few && (some || g.IntN(20) == 0) {
			return s
		}
	}
}

// sorted returns trees in ascending order.
func sorted(g api.Grammar, list []api.Tree) []api.Tree {
	list = slices.Clone(list)
	slices.SortFunc(list, func(a, b api.Tree) int { return tree.Compare(g, a, b) })
	return list
}

// everywhere returns a forest with its alternatives in all configurations.
func everywhere(f api.Forest) api.Forest {
	f = copyOf(f)
	for _, n := range f.Nodes {
		for i := range n.Alternatives {
			n.Alternatives[i].If = all()
		}
	}
	return f
}

// P11.1: the raw forests of random grammars and scans, by their definition.
func TestRandom(t *testing.T) {
	g := seeded(1)
	nodes, shared, partial, circles := 0, 0, 0, 0
	for range 2000 {
		s := g.sample()
		want, ok := forestOf(s.grammar, s.scan, mostTrees)
		if !ok {
			t.Fatal("a sample has too many trees")
		}
		if got := built(t, s.grammar, s.scan); !sameForest(got, want) {
			t.Fatalf("the forest of %v with %v is %v, want %v", s.scan, s.grammar, got, want)
		}
		nodes += len(want.Nodes)
		if hasCycle(everywhere(want), 0) {
			circles++
		}
		for _, n := range want.Nodes {
			if len(n.Alternatives) > 1 {
				shared++
			}
			for _, a := range n.Alternatives {
				if !diagram.Same(a.If, s.scan.Good) {
					partial++
				}
			}
		}
	}
	if nodes < 4000 || shared < 1000 || partial < 4000 || circles < 30 {
		t.Errorf("only %d nodes, %d of several alternatives, %d alternatives of some configurations, %d circles if conditions play no part", nodes, shared, partial, circles)
	}
}

// P11.2: the trees of a good configuration are its derivation trees, in ascending order.
func TestSelection(t *testing.T) {
	g := seeded(3)
	ambiguous := 0
	for range 1200 {
		s := g.sample()
		f := built(t, s.grammar, s.scan)
		for _, c := range configsOf(s.scan.Good, s.n) {
			want, _ := treesOf(s.grammar, s.scan, c, mostTrees)
			got, complete := trees(t, f, c, mostTrees)
			if !complete || !sameTrees(got, sorted(s.grammar, want)) {
				t.Fatalf("%v with %v, configuration %d: %v, want %v", s.scan, s.grammar, c, got, want)
			}
			p := scanner.Select(s.scan, c)
			for i, x := range got {
				if e := tree.Check(s.grammar, c, p, x); e != api.OK {
					t.Fatalf("%v with %v, configuration %d: %v has error %d", s.scan, s.grammar, c, x, e)
				}
				if i > 0 && tree.Compare(s.grammar, got[i-1], x) != -1 {
					t.Fatalf("%v with %v, configuration %d: %v is not in order", s.scan, s.grammar, c, got)
				}
			}
			if len(got) > 1 {
				ambiguous++
			}
		}
	}
	if ambiguous < 500 {
		t.Errorf("only %d ambiguous configurations", ambiguous)
	}
}

// P11.3: an alternative is in trees of the configurations of its set, and in those of no other ones.
func TestExactConditions(t *testing.T) {
	g := seeded(4)
	some := 0
	for range 1000 {
		s := g.sample()
		f := built(t, s.grammar, s.scan)
		if e := check(t, s.grammar, f); e != api.OK || !isFit(s.grammar, f) {
			t.Fatalf("the forest %v of %v with %v has error %d", f, s.scan, s.grammar, e)
		}
		uses := whereOf(f, s.n)
		for i, n := range f.Nodes {
			want := none()
			for j, a := range n.Alternatives {
				if !diagram.Same(uses[use{i, j}], a.If) {
					t.Fatalf("%v: node %d, alternative %d is in trees of %v", f, i, j, uses[use{i, j}])
				}
				want = or(want, a.If)
			}
			if d := where(t, f, i); !diagram.Same(d, want) {
				t.Fatalf("%v: node %d is in trees of %v, want %v", f, i, d, want)
			}
			some++
		}
	}
	if some < 2000 {
		t.Errorf("only %d nodes", some)
	}
}

// P11.4: the forest of one configuration has its trees.
func TestOneConfiguration(t *testing.T) {
	g := seeded(5)
	smaller := 0
	for range 1000 {
		s := g.sample()
		f := built(t, s.grammar, s.scan)
		for c := range api.Config(1) << (s.n + 1) {
			one := selected(t, f, c)
			if !sameForest(one, selectedOf(f, c)) {
				t.Fatalf("%v has for configuration %d the part %v", f, c, one)
			}
			want, _ := trees(t, f, c, mostTrees)
			for _, other := range []api.Config{0, c, ^c} {
				if got, complete := trees(t, one, other, mostTrees); !complete || !sameTrees(got, want) {
					t.Fatalf("%v, configuration %d: %v, want %v", f, c, got, want)
				}
			}
			if again := selected(t, one, c); !sameForest(again, one) {
				t.Fatalf("%v, configuration %d: selected again %v", f, c, again)
			}
			if len(one.Nodes) > 0 && len(one.Nodes) < len(f.Nodes) {
				smaller++
			}
		}
	}
	if smaller < 500 {
		t.Errorf("only %d parts", smaller)
	}
}

// P11.5: the configurations with trees are those that are accepted, and nodes are spans of the chart.
func TestAcceptance(t *testing.T) {
	g := seeded(6)
	for range 1000 {
		s := g.sample()
		f := built(t, s.grammar, s.scan)
		accepted := sure(chart.Accepted(s.grammar, s.scan))
		for _, c := range configsOf(s.scan.Good, s.n) {
			if list, _ := trees(t, f, c, 1); (len(list) == 1) != diagram.Holds(accepted, c) {
				t.Fatalf("%v with %v, configuration %d: %v", s.scan, s.grammar, c, list)
			}
		}
		spans := sure(chart.Spans(s.grammar, s.scan))
		for i, n := range f.Nodes {
			if d := where(t, f, i); diagram.Same(d, none()) || !diagram.Within(d, chart.Find(spans, n.Left, n.From, n.To)) {
				t.Fatalf("%v: node %d is in trees of %v", f, i, d)
			}
		}
	}
}

// P11.6: the first trees are the beginning of all trees.
func TestBeginnings(t *testing.T) {
	g := seeded(7)
	for range 500 {
		s := g.sample()
		f := built(t, s.grammar, s.scan)
		for c := range api.Config(1) << s.n {
			list, _ := trees(t, f, c, mostTrees)
			for most := -2; most <= len(list)+1; most++ {
				got, complete := trees(t, f, c, most)
				if !sameTrees(got, list[:min(max(most, 0), len(list))]) || complete != (most >= len(list)) {
					t.Fatalf("%v, configuration %d, most %d: %v, %v", f, c, most, got, complete)
				}
			}
			for _, most := range []int{1 << 20, 1 << 40, 1<<63 - 1} {
				if got, complete := trees(t, f, c, most); !complete || !sameTrees(got, list) {
					t.Fatalf("%v, configuration %d, most %d: %v, %v", f, c, most, got, complete)
				}
			}
			for _, most := range []int{-1, -1 << 40, -1 << 63} {
				if got, complete := trees(t, f, c, most); complete || len(got) > 0 {
					t.Fatalf("%v, configuration %d, most %d: %v, %v", f, c, most, got, complete)
				}
			}
		}
	}
}

// P11.7: a further production removes no tree.
func TestGrowth(t *testing.T) {
	g := seeded(8)
	grown := 0
	for range 1200 {
		s := g.sample()
		more := copyOf(s.grammar)
		more.Productions = append(more.Productions, g.production(more))
		if facts.Check(more) != api.OK {
			continue
		}
		f, h := built(t, s.grammar, s.scan), built(t, more, s.scan)
		for _, c := range configsOf(s.scan.Good, s.n) {
			before, _ := trees(t, f, c, mostTrees)
			after, complete := trees(t, h, c, 10*mostTrees)
			if !complete {
				continue
			}
			for _, x := range before {
				if !slices.ContainsFunc(after, func(y api.Tree) bool { return slices.Equal(x, y) }) {
					t.Fatalf("%v with %v, configuration %d: %v is missing", s.scan, more, c, x)
				}
			}
			if len(after) > len(before) {
				grown++
			}
		}
	}
	if grown < 200 {
		t.Errorf("only %d configurations with more trees", grown)
	}
}
