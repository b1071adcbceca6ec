package forest_test

import (
	"reflect"
	"slices"
	"strconv"
	"strings"
	"testing"

	"koine/api"
	"koine/diagram"
	"koine/forest"
	"koine/formula"
	"koine/scanner"
	"koine/source"
)

// sure returns the result of a call that cannot fail.
func sure[T any](result T, e api.Errno) T {
	if e != api.OK {
		panic("error " + strconv.Itoa(int(e)))
	}
	return result
}

func all() api.Diagram                 { return diagram.Constant(true) }
func none() api.Diagram                { return diagram.Constant(false) }
func is(v int) api.Diagram             { return sure(diagram.Var(v)) }
func and(a, b api.Diagram) api.Diagram { return sure(diagram.And(a, b)) }
func or(a, b api.Diagram) api.Diagram  { return sure(diagram.Or(a, b)) }
func not(a api.Diagram) api.Diagram    { return sure(diagram.Not(a)) }

// names returns the names of n conditions: A, B and so on, and behind Z others.
func names(n int) []string {
	var list []string
	for i := range n {
		if i < 26 {
			list = append(list, string(rune('A'+i)))
		} else {
			list = append(list, "C"+strconv.Itoa(i))
		}
	}
	return list
}

// set returns the configurations of an expression over A to Z.
func set(expression string) api.Diagram {
	return sure(formula.Diagram(sure(formula.Parse(names(26), expression))))
}

// words returns ordinary tokens with literals that are always present, and layout tokens for blanks and line feeds.
func words(literals ...string) []api.Token {
	var list []api.Token
	for _, s := range literals {
		list = append(list, api.Token{Name: s, Literal: s, If: all()})
	}
	for _, s := range []string{" ", "\n"} {
		list = append(list, api.Token{Name: s, Class: api.Layout, Literal: s, If: all()})
	}
	return list
}

// grammarOf returns a grammar with n conditions and the productions of some lines like "E = E + E", behind which " :: " and an expression can say where it is present. A name of a token is this token, and the others are nonterminals, the first one of which is the start symbol.
func grammarOf(n int, tokens []api.Token, lines ...string) api.Grammar {
	g := api.Grammar{Conditions: names(n), Family: all(), Tokens: tokens}
	symbol := func(name string) api.Symbol {
		if i := slices.IndexFunc(tokens, func(t api.Token) bool { return t.Name == name }); i >= 0 {
			return api.Symbol{Token: true, Index: i}
		}
		if !slices.Contains(g.Nonterminals, name) {
			g.Nonterminals = append(g.Nonterminals, name)
		}
		return api.Symbol{Index: slices.Index(g.Nonterminals, name)}
	}
	for i, line := range lines {
		p := api.Production{Name: "p" + strconv.Itoa(i), If: all()}
		rule, where, limited := strings.Cut(line, " :: ")
		if limited {
			p.If = set(where)
		}
		parts := strings.Fields(rule)
		p.Left = symbol(parts[0]).Index
		for _, name := range parts[2:] {
			p.Right = append(p.Right, symbol(name))
		}
		g.Productions = append(g.Productions, p)
	}
	return g
}

// example returns the grammar of the chapter's examples.
func example() api.Grammar {
	return grammarOf(1, words("a", "+"), "E = a", "E = E + E :: A")
}

// scanOf returns the scan of a file with some lines.
func scanOf(g api.Grammar, lines ...string) api.Scan {
	s, p := source.Read(g.Conditions, []api.File{{Name: "m", Text: strings.Join(lines, "\n") + "\n"}}, "m")
	return sure(scanner.Scan(g, sure(s, p.E)))
}

// textScan returns the scan of a text that is the same in all configurations.
func textScan(g api.Grammar, text string) api.Scan {
	return sure(scanner.Scan(g, api.Source{Text: text, Segments: []api.Segment{{To: len(text), If: all()}}}))
}

// lexeme returns a lexeme with tokens that it can be everywhere.
func lexeme(from, to int, where api.Diagram, tokens ...int) api.Lexeme {
	l := api.Lexeme{From: from, To: to, If: where}
	for _, t := range tokens {
		l.Choices = append(l.Choices, api.Choice{Token: t, If: where})
	}
	return l
}

// copied returns a value that shares no memory with v, but for strings. All lists have spare capacity.
func copied(v reflect.Value) reflect.Value {
	c := reflect.New(v.Type()).Elem()
	switch v.Kind() {
	case reflect.Slice:
		c.Set(reflect.MakeSlice(v.Type(), v.Len(), v.Len()+2))
		for i := range v.Len() {
			c.Index(i).Set(copied(v.Index(i)))
		}
	case reflect.Struct:
		for i := range v.NumField() {
			c.Field(i).Set(copied(v.Field(i)))
		}
	default:
		c.Set(v)
	}
	return c
}

func copyOf[T any](v T) T { return copied(reflect.ValueOf(v)).Interface().(T) }

// lists calls a function for each list of a value.
func lists(v reflect.Value, visit func(list reflect.Value)) {
	switch v.Kind() {
	case reflect.Slice:
		visit(v)
		for i := range v.Len() {
			lists(v.Index(i), visit)
		}
	case reflect.Struct:
		for i := range v.NumField() {
			lists(v.Field(i), visit)
		}
	}
}

// unchanged fails if an argument that copyOf made is not equal to what it was a copy of, or its spare capacity was used.
func unchanged(t *testing.T, v, like any) {
	t.Helper()
	is := reflect.DeepEqual(copied(reflect.ValueOf(v)).Interface(), copied(reflect.ValueOf(like)).Interface())
	lists(reflect.ValueOf(v), func(list reflect.Value) {
		for i := list.Len(); i < list.Cap(); i++ {
			is = is && list.Slice(0, list.Cap()).Index(i).IsZero()
		}
	})
	if !is {
		t.Fatal("an argument was changed")
	}
}

// separate fails if a list of a result shares memory with another one, or with one of the arguments.
func separate(t *testing.T, result any, arguments ...any) {
	t.Helper()
	type region struct {
		from, to uintptr
		given    bool
	}
	var regions []region
	for i, v := range append([]any{result}, arguments...) {
		lists(reflect.ValueOf(v), func(list reflect.Value) {
			if list.Cap() > 0 {
				regions = append(regions, region{list.Pointer(), list.Pointer() + uintptr(list.Cap())*list.Type().Elem().Size(), i > 0})
			}
		})
	}
	slices.SortFunc(regions, func(a, b region) int { return int(a.from) - int(b.from) })
	end, given := uintptr(0), true
	for _, p := range regions {
		if p.from < end && !(p.given && given) {
			t.Fatal("a list of a result shares memory")
		}
		if p.to > end {
			end, given = p.to, p.given
		}
	}
}

// build returns what Build returns, and fails if an argument was changed or the result is not of the right form.
func build(t *testing.T, g api.Grammar, x api.Scan) (api.Forest, api.Errno) {
	t.Helper()
	grammar, scan := copyOf(g), copyOf(x)
	f, e := forest.Build(grammar, scan)
	unchanged(t, grammar, g)
	unchanged(t, scan, x)
	separate(t, f, grammar, scan)
	if e != api.OK && !sameForest(f, api.Forest{}) {
		t.Fatalf("a forest with error %d", e)
	}
	return f, e
}

// check returns what Check returns, and fails if an argument was changed.
func check(t *testing.T, g api.Grammar, f api.Forest) api.Errno {
	t.Helper()
	grammar, given := copyOf(g), copyOf(f)
	e := forest.Check(grammar, given)
	unchanged(t, grammar, g)
	unchanged(t, given, f)
	return e
}

// selected returns what Select returns, and fails if an argument was changed or the result is not of the right form.
func selected(t *testing.T, f api.Forest, c api.Config) api.Forest {
	t.Helper()
	given := copyOf(f)
	s := forest.Select(given, c)
	unchanged(t, given, f)
	separate(t, s, given)
	return s
}

// trees returns what Trees returns, and fails if an argument was changed or the result is not of the right form.
func trees(t *testing.T, f api.Forest, c api.Config, most int) ([]api.Tree, bool) {
	t.Helper()
	given := copyOf(f)
	l, complete := forest.Trees(given, c, most)
	unchanged(t, given, f)
	separate(t, l, given)
	if len(l) > max(most, 0) {
		t.Fatalf("%d trees, at most %d are wanted", len(l), most)
	}
	return l, complete
}

// where returns what Where returns, and fails if an argument was changed or the result is not of the right form.
func where(t *testing.T, f api.Forest, node int) api.Diagram {
	t.Helper()
	given := copyOf(f)
	d := forest.Where(given, node)
	unchanged(t, given, f)
	separate(t, d, given)
	return d
}

// built returns the raw forest of a scan that is valid for its grammar.
func built(t *testing.T, g api.Grammar, x api.Scan) api.Forest {
	t.Helper()
	f, e := build(t, g, x)
	if e != api.OK {
		t.Fatalf("Build of %v with %v: error %d", x, g, e)
	}
	return f
}

func sameKids(a, b api.Alternative) bool {
	return a.Production == b.Production && slices.Equal(a.Kids, b.Kids)
}

func sameAlternative(a, b api.Alternative) bool { return sameKids(a, b) && diagram.Same(a.If, b.If) }

func sameNode(a, b api.ForestNode) bool {
	return a.Left == b.Left && a.From == b.From && a.To == b.To && a.Copy == b.Copy && slices.EqualFunc(a.Alternatives, b.Alternatives, sameAlternative)
}

func sameForest(a, b api.Forest) bool {
	return slices.EqualFunc(a.Nodes, b.Nodes, sameNode) && slices.EqualFunc(a.Roots, b.Roots, func(x, y api.Root) bool {
		return x.Node == y.Node && diagram.Same(x.If, y.If)
	})
}

func sameTree(a, b api.Tree) bool { return slices.Equal(a, b) }

func sameTrees(a, b []api.Tree) bool { return slices.EqualFunc(a, b, sameTree) }

// The following functions return parts of forests and trees.

func node(left, from, to int, alternatives ...api.Alternative) api.ForestNode {
	return api.ForestNode{Left: left, From: from, To: to, Alternatives: alternatives}
}

// copyNumber returns a node with another number of the copy.
func copyNumber(number int, n api.ForestNode) api.ForestNode {
	n.Copy = number
	return n
}

func alternative(where api.Diagram, production int, kids ...api.Kid) api.Alternative {
	return api.Alternative{Production: production, Kids: kids, If: where}
}

func leaf(token, from, to int) api.Kid { return api.Kid{Node: -1, Token: token, From: from, To: to} }

func kid(node, from, to int) api.Kid { return api.Kid{Node: node, Token: -1, From: from, To: to} }

func root(node int, where api.Diagram) api.Root { return api.Root{Node: node, If: where} }

// branch returns the tree of a production with the trees of its children.
func branch(production, from, to int, kids ...api.Tree) api.Tree {
	return slices.Concat(append([]api.Tree{{{Production: production, Token: -1, From: from, To: to}}}, kids...)...)
}

func word(token, from, to int) api.Tree {
	return api.Tree{{Production: -1, Token: token, From: from, To: to}}
}

// expectForest fails unless the raw forest of a scan is a forest.
func expectForest(t *testing.T, g api.Grammar, x api.Scan, want api.Forest) {
	t.Helper()
	if got := built(t, g, x); !sameForest(got, want) {
		t.Errorf("the forest is %v, want %v", got, want)
	}
}

// expectTrees fails unless a forest has a list of trees for a configuration, whatever number of them is wanted.
func expectTrees(t *testing.T, f api.Forest, c api.Config, want ...api.Tree) {
	t.Helper()
	for most := -1; most < len(want)+2; most++ {
		got, complete := trees(t, f, c, most)
		if !sameTrees(got, want[:min(len(want), max(most, 0))]) || complete != (most >= len(want)) {
			t.Errorf("%d trees for configuration %d: %v, %v, want those of %v", most, c, got, complete, want)
		}
	}
}

// expectWhere fails unless the nodes of a forest are in trees of the given configurations.
func expectWhere(t *testing.T, f api.Forest, want ...api.Diagram) {
	t.Helper()
	for i, d := range want {
		if got := where(t, f, i); !diagram.Same(got, d) {
			t.Errorf("node %d is in trees of %v, want %v", i, got, d)
		}
	}
	for _, i := range []int{-1, -2, -1 << 63, len(f.Nodes), len(f.Nodes) + 1, 1<<63 - 1} {
		if got := where(t, f, i); !diagram.Same(got, none()) {
			t.Errorf("node %d, which is none, is in trees of %v", i, got)
		}
	}
}
