package restrict_test

import (
	"slices"
	"strings"
	"testing"

	"koine/api"
	"koine/diagram"
	"koine/facts"
	"koine/grammar"
	"koine/tree"
)

// TestViolationsOfAll compares with the chapter's sentences (P14.1, N1, N2).
func TestViolationsOfAll(t *testing.T) {
	steps, kinds, survivors := map[int]int{}, map[int]int{}, 0
	for k := range uint64(1500) {
		r := seeded(k)
		g := r.grammar(int(k % 4))
		for _, c := range family(g) {
			p, x := r.tree(g, c, 20)
			want := violationsOf(g, c, p, x)
			expectViolations(t, g, c, p, x, want...)
			for _, v := range want {
				steps[v.Step]++
				if v.Step == api.StepLayout {
					kinds[g.Productions[x[v.Node].Production].Layout[v.Rule].Kind]++
				}
			}
			if len(want) == 0 {
				survivors++
			}
		}
		if t.Failed() {
			t.Fatalf("seed %d", k)
		}
	}
	for _, step := range []int{api.StepFollow, api.StepPrecede, api.StepLayout} {
		if steps[step] < 10000 {
			t.Errorf("only %v violations by steps", steps)
		}
	}
	for kind := api.Offside; kind <= api.SameLine; kind++ {
		if kinds[kind] < 2000 {
			t.Errorf("only %v violations of constraints by kinds", kinds)
		}
	}
	if survivors < 1000 || len(steps) != 3 {
		t.Errorf("only %d survivors, and violations of the steps %v", survivors, steps)
	}
}

// TestConfigurations is P14.2.
func TestConfigurations(t *testing.T) {
	absent, found := 0, 0
	for k := range uint64(600) {
		r := seeded(k)
		g := r.grammar(1 + int(k%3))
		for _, c := range family(g) {
			p, x := r.tree(g, c, 20)
			want := sure(violations(t, g, c, p, x))
			expectViolations(t, sure(grammar.At(g, c)), 0, p, x, want...)
			found += len(want)
			if slices.ContainsFunc(g.Filters, func(f api.Filter) bool { return !diagram.Holds(f.If, c) }) {
				absent++
			}
		}
		if t.Failed() {
			t.Fatalf("seed %d", k)
		}
	}
	if absent < 500 || found < 5000 {
		t.Errorf("only %d configurations without a filter, %d violations", absent, found)
	}
}

// written returns a text of the words of a shape, with some of the given separators between them, and its plain text and tree in a configuration.
func (g generator) written(x api.Grammar, c api.Config, s shape, separators ...string) (string, api.Plain, api.Tree) {
	var text strings.Builder
	skip := func() {
		for range g.IntN(4) {
			text.WriteString(pick(g, separators...))
		}
	}
	for _, n := range s {
		if n.Production < 0 {
			skip()
			text.WriteString([]string{"a", "b", "c", "d"}[n.Token])
		}
	}
	skip()
	p := plainOf(x, c, text.String())
	return text.String(), p, placed(x, s, p)
}

// constraintsOf calls a function for each constraint of a tree with its children, if they have words (for Offside, only A).
func constraintsOf(g api.Grammar, p api.Plain, x api.Tree, visit func(v api.Violation, c api.Constraint, a, b []api.Word)) {
	nestOf(g, x).all(func(n nest) {
		if n.isLeaf() {
			return
		}
		for i, c := range g.Productions[n.Production].Layout {
			a, b := n.kids[c.A].words(p), n.kids[c.B].words(p)
			if len(a) > 0 && (len(b) > 0 || c.Kind == api.Offside) {
				visit(lays(n.index, i), c, a, b)
			}
		}
	})
}

// TestOneLine is the first part of P14.3.
func TestOneLine(t *testing.T) {
	violated, kept := map[int]int{}, map[int]int{}
	for k := range uint64(1000) {
		r := seeded(k)
		g := r.grammar(1)
		c := pick(r, family(g)...)
		_, p, x := r.written(g, c, r.shape(g, c, 20), " ", "  ", "{}", "{a}")
		list := sure(violations(t, g, c, p, x))
		constraintsOf(g, p, x, func(v api.Violation, l api.Constraint, a, b []api.Word) {
			is := slices.Contains(list, v)
			if is && (l.Kind == api.Offside || l.Kind == api.SameLine) {
				t.Fatalf("%d: on one line, %v violates %v", k, v, l)
			}
			if l.Kind == api.Align && is != (a[0].From != b[0].From) {
				t.Fatalf("%d: on one line, %v of %v is violated: %v", k, v, l, is)
			}
			if is {
				violated[l.Kind]++
			} else {
				kept[l.Kind]++
			}
		})
	}
	if violated[api.Align] < 2000 || kept[api.Align] < 500 || kept[api.Offside] < 2000 || kept[api.SameLine] < 2000 {
		t.Errorf("only %v constraints are violated, %v are kept", violated, kept)
	}
}

// TestMoved is the second part of P14.3.
func TestMoved(t *testing.T) {
	found := map[int]int{}
	for k := range uint64(600) {
		r := seeded(k)
		g := r.grammar(1)
		c := pick(r, family(g)...)
		s := r.shape(g, c, 20)
		text, p, x := r.written(g, c, s, " ", "\n", "\n  ", "{}", "{\n }")
		want := sure(violations(t, g, c, p, x))
		by := strings.Repeat(" ", 1+r.IntN(4))
		q := plainOf(g, c, by+strings.ReplaceAll(text, "\n", "\n"+by))
		for i, w := range p.Words {
			if q.Words[i].Column != w.Column+len(by) || q.Words[i].First != w.First {
				t.Fatalf("%d: %v was moved to %v", k, w, q.Words[i])
			}
		}
		expectViolations(t, g, c, q, placed(g, s, q), want...)
		// The same if nothing but the columns tells that the words are further to the right.
		for i := range p.Words {
			p.Words[i].Column += len(by)
		}
		expectViolations(t, g, c, p, x, want...)
		if t.Failed() {
			t.Fatalf("seed %d", k)
		}
		for _, v := range want {
			if v.Step == api.StepLayout {
				found[g.Productions[x[v.Node].Production].Layout[v.Rule].Kind]++
			}
		}
	}
	for kind := api.Offside; kind <= api.SameLine; kind++ {
		if found[kind] < 500 {
			t.Errorf("only %v violations", found)
		}
	}
}

// pairs returns an ambiguous grammar with random filters of all of its nonterminals.
func (g generator) pairs() api.Grammar {
	x := grammarOf(0, words("a", "b", "c"), "E = T", "E = E E", "E = b E", "T = a", "T = b", "T = T a", "T = V V a", "V = ", "V = b", "V = c")
	x.Productions[1].Layout = []api.Constraint{align(0, 1), offside(1)}
	for range 1 + g.IntN(6) {
		f := api.Filter{Kind: pick(g, api.FilterFollow, api.FilterPrecede), Left: g.IntN(3), If: all()}
		for token := range 3 {
			if g.IntN(2) == 0 {
				f.Tokens = append(f.Tokens, token)
			}
		}
		if len(f.Tokens) > 0 {
			x.Filters = append(x.Filters, f)
		}
	}
	return x
}

// beside returns the violations of follow and precede filters at a node.
func beside(list []api.Violation, node int) []api.Violation {
	return slices.DeleteFunc(slices.Clone(list), func(v api.Violation) bool { return v.Node != node || v.Step == api.StepLayout })
}

// TestReplacement is the last part of P14.4.
func TestReplacement(t *testing.T) {
	replaced, found := 0, 0
	for k := range uint64(150) {
		r := seeded(k)
		g := r.pairs()
		text := pick(r, "a a a", "b b a\na", "b a b", "c b\n a a", "a a\nb\nb a")
		p := plainOf(g, 0, text)
		list := treesOf(g, 0, text)
		for range 20 {
			x, y := pick(r, list...), pick(r, list...)
			i := r.IntN(len(x))
			left := func(n api.Node) int { return g.Productions[n.Production].Left }
			j := slices.IndexFunc(y, func(n api.Node) bool {
				return n.Production >= 0 && x[i].Production >= 0 && left(n) == left(x[i]) && n.From == x[i].From && n.To == x[i].To
			})
			if j < 0 {
				continue
			}
			z := sure(tree.Replace(g, x, i, sure(tree.Subtree(g, y, j))))
			before, after := beside(sure(violations(t, g, 0, p, x)), i), beside(sure(violations(t, g, 0, p, z)), i)
			if !slices.Equal(before, after) {
				t.Fatalf("%d: replacing node %d of %v changes its violations %v to %v", k, i, x, before, after)
			}
			found += len(after)
			if !slices.Equal(x, z) {
				replaced++
			}
		}
	}
	if replaced < 300 || found < 300 {
		t.Errorf("only %d subtrees were replaced, with %d violations", replaced, found)
	}
}

// TestNeighbors is the first part of P14.4.
func TestNeighbors(t *testing.T) {
	found, none := 0, 0
	for k := range uint64(3000) {
		r := seeded(k)
		g := r.grammar(1)
		c := pick(r, family(g)...)
		p, x := r.tree(g, c, 20)
		i := r.IntN(len(x))
		if x[i].Production < 0 {
			continue
		}
		want := beside(sure(violations(t, g, c, p, x)), i)
		gaps := gapsOf(p)
		behind, before := slices.Index(gaps, x[i].To), slices.Index(gaps, x[i].From)-1
		leaves := slices.DeleteFunc(slices.Clone(x), func(n api.Node) bool { return n.Production >= 0 })
		for j := range p.Words {
			w := &p.Words[j]
			w.Column, w.First = r.IntN(5), r.IntN(2) == 0
			if j != behind && j != before {
				w.Tokens = r.tokens(leaves[j].Token)
			}
		}
		if got := beside(sure(violations(t, g, c, p, x)), i); !slices.Equal(got, want) {
			t.Fatalf("%d: the violations of node %d of %v are %v, and with other words elsewhere %v", k, i, x, want, got)
		}
		found += len(want)
		if len(want) == 0 {
			none++
		}
	}
	if found < 400 || none < 400 {
		t.Errorf("only %d violations, and %d nodes without one", found, none)
	}
}

// TestNoRules is the first part of P14.5.
func TestNoRules(t *testing.T) {
	for k := range uint64(300) {
		r := seeded(k)
		g := r.grammar(int(k % 3))
		g.Filters = slices.DeleteFunc(g.Filters, func(f api.Filter) bool { return f.Kind != api.FilterReserve })
		for i := range g.Productions {
			g.Productions[i].Layout = nil
		}
		for _, c := range family(g) {
			p, x := r.tree(g, c, 20)
			expectViolations(t, g, c, p, x)
		}
	}
	g := blocks()
	g.Filters, g.Productions[1].Layout, g.Productions[3].Layout = nil, nil, nil
	text := "if x x\n x if\nx\nx"
	list := treesOf(g, 0, text)
	if len(list) < 3 {
		t.Errorf("%d trees", len(list))
	}
	for _, x := range list {
		expectViolations(t, g, 0, plainOf(g, 0, text), x)
	}
}

// TestFurtherTokens is the second part of P14.5.
func TestFurtherTokens(t *testing.T) {
	kept, more := 0, 0
	for k := range uint64(600) {
		r := seeded(k)
		g := r.grammar(1)
		c := pick(r, family(g)...)
		p, x := r.tree(g, c, 20)
		before := sure(violations(t, g, c, p, x))
		for i := range g.Filters {
			f := &g.Filters[i]
			if f.Kind != api.FilterReserve {
				f.Tokens = slices.Compact(slices.Sorted(slices.Values(append(r.tokens(r.IntN(4)), f.Tokens...))))
			}
		}
		if e := facts.Check(g); e != api.OK {
			t.Fatalf("%d: error %d", k, e)
		}
		after := sure(violations(t, g, c, p, x))
		for _, v := range before {
			if !slices.Contains(after, v) {
				t.Fatalf("%d: with further tokens, %v is no violation", k, v)
			}
		}
		kept += len(before)
		more += len(after) - len(before)
	}
	if kept < 2000 || more < 1000 {
		t.Errorf("only %d violations, and %d because of further tokens", kept, more)
	}
}

// TestNodes is P14.6, and has the order of the violations (P14.1, N1).
func TestNodes(t *testing.T) {
	steps := map[int]int{}
	for k := range uint64(600) {
		r := seeded(k)
		g := r.grammar(2)
		for _, c := range family(g) {
			p, x := r.tree(g, c, 20)
			list := sure(violations(t, g, c, p, x))
			for i, v := range list {
				if v.Node < 0 || v.Node >= len(x) || x[v.Node].Production < 0 {
					t.Fatalf("%d: %v names no node, or a leaf", k, v)
				}
				q := g.Productions[x[v.Node].Production]
				is := v.Rule >= 0
				switch v.Step {
				case api.StepFollow:
					is = is && v.Rule < len(g.Filters) && g.Filters[v.Rule].Kind == api.FilterFollow && g.Filters[v.Rule].Left == q.Left
				case api.StepPrecede:
					is = is && v.Rule < len(g.Filters) && g.Filters[v.Rule].Kind == api.FilterPrecede && g.Filters[v.Rule].Left == q.Left
				case api.StepLayout:
					is = is && v.Rule < len(q.Layout)
				default:
					is = false
				}
				if !is {
					t.Fatalf("%d: %v names no rule of node %v", k, v, x[v.Node])
				}
				if i > 0 && slices.Compare(fields(list[i-1]), fields(v)) >= 0 {
					t.Fatalf("%d: %v is behind %v", k, v, list[i-1])
				}
				steps[v.Step]++
			}
		}
	}
	for _, step := range []int{api.StepFollow, api.StepPrecede, api.StepLayout} {
		if steps[step] < 2000 {
			t.Errorf("only %v violations by steps", steps)
		}
	}
}

// fields returns the fields of a violation, which order it.
func fields(v api.Violation) []int { return []int{v.Step, v.Node, v.Rule} }
