package tree_test

import (
	"slices"
	"strconv"
	"strings"
	"testing"

	"koine/api"
	"koine/tree"
)

// lines is a grammar whose trees are as deep as they have words.
func lines() api.Grammar {
	return grammarOf(0, ordinary("x", "y"), "S = L", "L = L x", "L =", "L = x")
}

// line returns the tree of n words x in this grammar, which has 2n+2 nodes, or 2n+1 if the innermost node is of production 3.
func line(n, innermost int) api.Tree {
	var x api.Tree
	x = append(x, api.Node{Token: -1, To: n})
	steps := n
	if innermost == 3 {
		steps--
	}
	for i := range steps {
		x = append(x, api.Node{Production: 1, Token: -1, To: n - i})
	}
	x = append(x, api.Node{Production: innermost, Token: -1, To: n - steps})
	for i := range n {
		x = append(x, api.Node{Production: -1, From: i, To: i + 1})
	}
	return x
}

// words returns the plain text of n words x without bytes between them.
func words(n int) api.Plain {
	p := api.Plain{End: n, Stuck: -1}
	for i := range n {
		p.Words = append(p.Words, api.Word{From: i, To: i + 1, Tokens: only(0)})
	}
	return p
}

// untold returns a tree as a term with the text x at each leaf.
func untold(x api.Tree) api.Term {
	var y api.Term
	for _, n := range x {
		m := api.TermNode{Production: n.Production, Token: n.Token}
		if n.Production == -1 {
			m.Text = "x"
		}
		y.Nodes = append(y.Nodes, m)
	}
	return y
}

// P9.1: trees and terms with as many nodes as there can be.
func TestLargest(t *testing.T) {
	const n = api.MaxForest/2 - 1
	g, x, p := lines(), line(n, 2), words(n)
	if len(x) != api.MaxForest {
		t.Fatalf("%d nodes", len(x))
	}
	if e, f := tree.Shape(g, 0, x), tree.Check(g, 0, p, x); e != api.OK || f != api.OK {
		t.Errorf("Shape: error %d, Check: error %d", e, f)
	}
	if k, ok := tree.Behind(g, x, 1); !ok || k != len(x) {
		t.Errorf("Behind: %d, %v", k, ok)
	}
	if list, ok := tree.Kids(g, x, 1); !ok || !slices.Equal(list, []int{2, len(x) - 1}) {
		t.Errorf("Kids: %v, %v", list, ok)
	}
	other := slices.Clone(x)
	other[len(x)-1].To++
	if d := tree.Compare(g, x, other); d != -1 || tree.Compare(g, x, x) != 0 {
		t.Errorf("Compare: %d", d)
	}
	y, e := tree.Term(g, strings.Repeat("x", n), p, x)
	if e != api.OK || !tree.Same(y, untold(x)) || tree.CheckTerm(g, 0, 0, y) != api.OK {
		t.Fatalf("Term: error %d", e)
	}
	if z, e := tree.Map(g, g, nil, y); e != api.OK || !tree.Same(y, z) {
		t.Errorf("Map: error %d", e)
	}
}

// P9.1: a node more is too much.
func TestTooLarge(t *testing.T) {
	const n = api.MaxForest / 2
	g, x, p := lines(), line(n, 3), words(n)
	if len(x) != api.MaxForest+1 {
		t.Fatalf("%d nodes", len(x))
	}
	if e, f := tree.Shape(g, 0, x), tree.Check(g, 0, p, x); e != api.ErrTree || f != api.ErrTree {
		t.Errorf("Shape: error %d, Check: error %d", e, f)
	}
	_, isBehind := tree.Behind(g, x, 0)
	_, areKids := tree.Kids(g, x, 0)
	if isBehind || areKids {
		t.Errorf("Behind: %v, Kids: %v", isBehind, areKids)
	}
	if _, e := tree.Subtree(g, x, -1); e != api.ErrTree {
		t.Errorf("Subtree: error %d", e)
	}
	if _, e := tree.Replace(g, line(1, 2), 0, x); e != api.ErrTree {
		t.Errorf("Replace by it: error %d", e)
	}
	if d := tree.Compare(g, line(1, 2), x); d != 0 {
		t.Errorf("Compare: %d", d)
	}
	if _, e := tree.Term(g, strings.Repeat("x", n), p, x); e != api.ErrTree {
		t.Errorf("Term: error %d", e)
	}
	y := untold(x)
	if e := tree.CheckTerm(g, 0, 0, y); e != api.ErrLarge {
		t.Errorf("CheckTerm: error %d", e)
	}
	if _, e := tree.Map(g, g, api.Mapping{rewrite(0, made(0, made(2)))}, y); e != api.ErrTerm {
		t.Errorf("Map: error %d", e)
	}
}

// P9.1, I2: the largest result of Replace.
func TestLargestReplaced(t *testing.T) {
	g, x := lines(), line(api.MaxForest/4, 2) // 2 nodes more than half of the limit
	for _, k := range []struct {
		u    api.Tree
		want api.Errno
	}{
		{line(api.MaxForest/4-1, 2)[1:], api.OK},
		{line(api.MaxForest/4, 3)[1:], api.ErrLarge},
		{line(api.MaxForest/4, 2)[1:], api.ErrLarge},
		{line(api.MaxForest/2-1, 2)[1:], api.ErrLarge},
	} {
		i := api.MaxForest/4 + 1 // the innermost node
		y, e := tree.Replace(g, x, i, k.u)
		if e != k.want || e == api.OK && len(y) != api.MaxForest || e != api.OK && y != nil {
			t.Errorf("by %d nodes: %d nodes, error %d", len(k.u), len(y), e)
		}
	}
}

// P9.1: the deepest trees, of as many productions as there can be, most of which have one child.
func TestDeepest(t *testing.T) {
	const n = api.MaxProductions - 1
	g := api.Grammar{Family: all(), Tokens: ordinary("x")}
	for i := range n {
		p := api.Production{Name: "p" + strconv.Itoa(i), Left: i, Right: []api.Symbol{{Index: (i + 1) % n}}, If: all()}
		if i == 0 {
			p.Right = slices.Insert(p.Right, 0, api.Symbol{Token: true})
		}
		g.Nonterminals = append(g.Nonterminals, "N"+strconv.Itoa(i))
		g.Productions = append(g.Productions, p)
	}
	g.Productions = append(g.Productions, api.Production{Name: "end", If: all()})
	const rounds = (api.MaxForest - 1) / (n + 1)
	var x api.Tree
	for k := range rounds {
		x = append(x, api.Node{Token: -1, From: k, To: rounds}, api.Node{Production: -1, From: k, To: k + 1})
		for i := 1; i < n; i++ {
			x = append(x, api.Node{Production: i, Token: -1, From: k + 1, To: rounds})
		}
	}
	x = append(x, api.Node{Production: n, Token: -1, From: rounds, To: rounds})
	if e := tree.Check(g, 0, words(rounds), x); e != api.OK {
		t.Errorf("Check: error %d", e)
	}
	if e := tree.Shape(g, 0, x[:len(x)-1]); e != api.ErrTree {
		t.Errorf("Shape without the last node: error %d", e)
	}
	y := untold(x)
	if z, e := tree.Map(g, g, nil, y); e != api.OK || !tree.Same(y, z) {
		t.Errorf("Map: error %d", e)
	}
	m := api.Mapping{rewriteAt(n-1, 0, 0, made(n-1, made(n)))}
	if z, e := tree.Map(g, g, m, y); e != api.OK || len(z.Nodes) != n+2 {
		t.Errorf("Map to less: %d nodes, error %d", len(z.Nodes), e)
	}
	if z, e := tree.Map(g, g, api.Mapping{rewrite(0, made(0, hole(0), hole(1)))}, y); e != api.OK || !tree.Same(y, z) {
		t.Errorf("Map by a rewrite to itself: error %d", e)
	}
}

// P9.1, I7: the largest image, which is smaller and larger than the term.
func TestLargestImage(t *testing.T) {
	g := lines()
	grow := rewrite(1, made(1, made(1, hole(0), fresh(0, "x")), hole(1))) // 4 nodes in the place of 2
	const half = api.MaxForest/4 - 1
	y := untold(line(half, 2)) // its image has 4*half+2 nodes, 2 less than the limit
	z, e := tree.Map(g, g, api.Mapping{grow}, y)
	if e != api.OK || len(z.Nodes) != 4*half+2 {
		t.Errorf("%d nodes, error %d", len(z.Nodes), e)
	}
	for _, k := range []struct {
		innermost stencil
		want      api.Errno
	}{
		{made(1, made(2), fresh(0, "x")), api.OK}, // 2 nodes more
		{made(1, made(3, fresh(0, "x")), fresh(0, "x")), api.ErrLarge},
		{made(1, made(1, made(2), fresh(0, "x")), fresh(0, "x")), api.ErrLarge},
	} {
		z, e := tree.Map(g, g, api.Mapping{grow, rewrite(2, k.innermost)}, y)
		if e != k.want || e == api.OK && len(z.Nodes) != api.MaxForest || e != api.OK && z.Nodes != nil {
			t.Errorf("%d nodes, error %d", len(z.Nodes), e)
		}
	}
	// What is dropped does not count.
	large := made(2)
	for range (api.MaxNodes - 2) / 2 {
		large = made(1, large, fresh(0, "x"))
	}
	x := untold(line(api.MaxForest/2-1, 2))
	if _, e := tree.Map(g, g, api.Mapping{rewrite(2, large)}, x); e != api.ErrLarge {
		t.Errorf("a larger image: error %d", e)
	}
	if z, e := tree.Map(g, g, api.Mapping{rewrite(2, large), rewriteAt(0, 0, 1, made(0, made(2)))}, x); e != api.OK || len(z.Nodes) != 2 {
		t.Errorf("an image of dropped nodes: %d nodes, error %d", len(z.Nodes), e)
	}
}

// P9.1, I7: templates that make a large image larger by far.
func TestHugeImage(t *testing.T) {
	g := lines()
	template := hole(0)
	for range (api.MaxNodes - 1) / 2 {
		template = made(1, template, fresh(0, "x"))
	}
	y := untold(line(api.MaxForest/2-1, 2))
	if _, e := tree.Map(g, g, api.Mapping{rewrite(1, template)}, y); e != api.ErrLarge {
		t.Errorf("error %d", e)
	}
}

// P9.1, I6: the largest template.
func TestLargestTemplate(t *testing.T) {
	g := lines()
	template, more := made(2), made(3, fresh(0, "x"))
	for range api.MaxNodes/2 - 1 {
		template, more = made(1, template, fresh(0, "x")), made(1, more, fresh(0, "x"))
	}
	// With 2 nodes for each production 1, the first one has 511 nodes, and the second one 512.
	for _, k := range []struct {
		r     api.Rewrite
		nodes int
		want  api.Errno
	}{
		{rewrite(1, template), api.MaxNodes - 1, api.OK},
		{rewrite(1, more), api.MaxNodes, api.OK},
		{rewrite(0, made(0, template)), api.MaxNodes, api.OK},
		{rewrite(1, made(1, template, fresh(0, "x"))), api.MaxNodes + 1, api.ErrMapping},
		{rewrite(0, made(0, more)), api.MaxNodes + 1, api.ErrMapping},
		{rewrite(1, made(1, more, fresh(0, "x"))), api.MaxNodes + 2, api.ErrMapping},
	} {
		m := api.Mapping{k.r}
		if e := checkMapping(t, g, g, m); e != k.want || len(k.r.Template) != k.nodes || isMapping(g, g, m) != (e == api.OK) {
			t.Errorf("%d nodes: error %d, want %d", len(k.r.Template), e, k.want)
		}
	}
}

// P9.1, I6 and I7: as many productions as there can be, each with a rewrite for each child.
func TestManyRewrites(t *testing.T) {
	const n = api.MaxProductions - 2
	g := grammarOf(0, ordinary("x"), "S = N N", "S = x")
	g.Nonterminals = []string{"S", "N"}
	for i := range n {
		p := api.Production{Name: "n" + strconv.Itoa(i), Left: 1, If: all()}
		for range i % 17 {
			p.Right = append(p.Right, api.Symbol{Token: true})
		}
		g.Productions = append(g.Productions, p)
	}
	h := copyOf(g)
	h.Productions[0].Right = nil
	var m api.Mapping
	for range 20 {
		for i := range n {
			m = append(m, rewriteAt(0, 1, n+1-i, made(1, fresh(0, "x"))))
		}
	}
	if e := tree.CheckMapping(g, h, m); e != api.OK {
		t.Errorf("CheckMapping: error %d", e)
	}
	if e := tree.CheckMapping(g, h, m[:n-1]); e != api.ErrMapping {
		t.Errorf("CheckMapping without one: error %d", e)
	}
	y := term(branch(0, branch(2), branch(2)))
	if z, e := tree.Map(g, h, m, y); e != api.OK || !equal(z, term(branch(1, word(0, "x")))) {
		t.Errorf("Map: %v, error %d", z, e)
	}
}

// P9.1, I5: many leaves with a large pattern, and long remarks.
func TestManyTexts(t *testing.T) {
	var names []string
	for i := range 60 {
		names = append(names, "n"+strconv.Itoa(100+i))
	}
	name := "/" + strings.Join(names, "|") + "/"
	g := grammarOf(0, append(ordinary(name), token(api.Remark, "/%(r)*;/", all())), "L = L "+name, "L =")
	nodes := list{}
	const n = 100000
	for range n {
		nodes = append(nodes, api.TermNode{Token: -1})
	}
	nodes = append(nodes, api.TermNode{Production: 1, Token: -1})
	for i := range n {
		nodes = append(nodes, api.TermNode{Production: -1, Text: names[i%60]})
	}
	nodes[len(nodes)-1].Remarks = []string{"%" + strings.Repeat("r", 1<<20) + ";"}
	if e := tree.CheckTerm(g, 0, 0, term(nodes)); e != api.OK {
		t.Errorf("error %d", e)
	}
	nodes[len(nodes)-2].Text = "n160"
	if e := tree.CheckTerm(g, 0, 0, term(nodes)); e != api.ErrTerm {
		t.Errorf("another text: error %d", e)
	}
}
