package count_test

import (
	"reflect"
	"slices"
	"strconv"
	"strings"
	"testing"

	"koine/api"
	"koine/count"
	"koine/diagram"
	"koine/forest"
	"koine/formula"
	"koine/natural"
	"koine/scanner"
	"koine/source"
)

// sure returns the result of a call that cannot fail.
func sure[T any](result T, e api.Errno) T {
	if e != api.OK {
		panic("error " + strconv.Itoa(int(e)))
	}
	return result
}

func all() api.Diagram                 { return diagram.Constant(true) }
func none() api.Diagram                { return diagram.Constant(false) }
func is(v int) api.Diagram             { return sure(diagram.Var(v)) }
func and(a, b api.Diagram) api.Diagram { return sure(diagram.And(a, b)) }
func or(a, b api.Diagram) api.Diagram  { return sure(diagram.Or(a, b)) }
func not(a api.Diagram) api.Diagram    { return sure(diagram.Not(a)) }

// names returns the names of n conditions: A, B and so on, and behind Z others.
func names(n int) []string {
	var list []string
	for i := range n {
		if i < 26 {
			list = append(list, string(rune('A'+i)))
		} else {
			list = append(list, "C"+strconv.Itoa(i))
		}
	}
	return list
}

// set returns the configurations of an expression over A to Z.
func set(expression string) api.Diagram {
	return sure(formula.Diagram(sure(formula.Parse(names(26), expression))))
}

// words returns ordinary tokens with literals that are always present, and layout tokens for blanks and line feeds.
func words(literals ...string) []api.Token {
	var list []api.Token
	for _, s := range literals {
		list = append(list, api.Token{Name: s, Literal: s, If: all()})
	}
	for _, s := range []string{" ", "\n"} {
		list = append(list, api.Token{Name: s, Class: api.Layout, Literal: s, If: all()})
	}
	return list
}

// grammarOf returns a grammar with n conditions and the productions of some lines like "E = E + E", behind which " :: " and an expression can say where it is present. A name of a token is this token, and the others are nonterminals, the first one of which is the start symbol.
func grammarOf(n int, tokens []api.Token, lines ...string) api.Grammar {
	g := api.Grammar{Conditions: names(n), Family: all(), Tokens: tokens}
	symbol := func(name string) api.Symbol {
		if i := slices.IndexFunc(tokens, func(t api.Token) bool { return t.Name == name }); i >= 0 {
			return api.Symbol{Token: true, Index: i}
		}
		if !slices.Contains(g.Nonterminals, name) {
			g.Nonterminals = append(g.Nonterminals, name)
		}
		return api.Symbol{Index: slices.Index(g.Nonterminals, name)}
	}
	for i, line := range lines {
		p := api.Production{Name: "p" + strconv.Itoa(i), If: all()}
		rule, where, limited := strings.Cut(line, " :: ")
		if limited {
			p.If = set(where)
		}
		parts := strings.Fields(rule)
		p.Left = symbol(parts[0]).Index
		for _, name := range parts[2:] {
			p.Right = append(p.Right, symbol(name))
		}
		g.Productions = append(g.Productions, p)
	}
	return g
}

// scanOf returns the scan of a file with some lines.
func scanOf(g api.Grammar, lines ...string) api.Scan {
	s, p := source.Read(g.Conditions, []api.File{{Name: "m", Text: strings.Join(lines, "\n") + "\n"}}, "m")
	return sure(scanner.Scan(g, sure(s, p.E)))
}

// copied returns a value that shares no memory with v, but for strings. All lists have spare capacity.
func copied(v reflect.Value) reflect.Value {
	c := reflect.New(v.Type()).Elem()
	switch v.Kind() {
	case reflect.Slice:
		c.Set(reflect.MakeSlice(v.Type(), v.Len(), v.Len()+2))
		for i := range v.Len() {
			c.Index(i).Set(copied(v.Index(i)))
		}
	case reflect.Struct:
		for i := range v.NumField() {
			c.Field(i).Set(copied(v.Field(i)))
		}
	default:
		c.Set(v)
	}
	return c
}

func copyOf[T any](v T) T { return copied(reflect.ValueOf(v)).Interface().(T) }

// lists calls a function for each list of a value.
func lists(v reflect.Value, visit func(list reflect.Value)) {
	switch v.Kind() {
	case reflect.Slice:
		visit(v)
		for i := range v.Len() {
			lists(v.Index(i), visit)
		}
	case reflect.Struct:
		for i := range v.NumField() {
			lists(v.Field(i), visit)
		}
	}
}

// unchanged fails if an argument that copyOf made is not equal to what it was a copy of, or its spare capacity was used.
func unchanged(t *testing.T, v, like any) {
	t.Helper()
	is := reflect.DeepEqual(copied(reflect.ValueOf(v)).Interface(), copied(reflect.ValueOf(like)).Interface())
	lists(reflect.ValueOf(v), func(list reflect.Value) {
		for i := list.Len(); i < list.Cap(); i++ {
			is = is && list.Slice(0, list.Cap()).Index(i).IsZero()
		}
	})
	if !is {
		t.Fatal("an argument was changed")
	}
}

// separate fails if a list of a result shares memory with another one, or with one of the arguments.
func separate(t *testing.T, result any, arguments ...any) {
	t.Helper()
	type region struct {
		from, to uintptr
		given    bool
	}
	var regions []region
	for i, v := range append([]any{result}, arguments...) {
		lists(reflect.ValueOf(v), func(list reflect.Value) {
			if list.Cap() > 0 {
				regions = append(regions, region{list.Pointer(), list.Pointer() + uintptr(list.Cap())*list.Type().Elem().Size(), i > 0})
			}
		})
	}
	slices.SortFunc(regions, func(a, b region) int { return int(a.from) - int(b.from) })
	end, given := uintptr(0), true
	for _, p := range regions {
		if p.from < end && !(p.given && given) {
			t.Fatal("a list of a result shares memory")
		}
		if p.to > end {
			end, given = p.to, p.given
		}
	}
}

func node(left, from, to int, alternatives ...api.Alternative) api.ForestNode {
	return api.ForestNode{Left: left, From: from, To: to, Alternatives: alternatives}
}

// copyNumber returns a node with another number of the copy.
func copyNumber(number int, n api.ForestNode) api.ForestNode {
	n.Copy = number
	return n
}

func alternative(where api.Diagram, production int, kids ...api.Kid) api.Alternative {
	return api.Alternative{Production: production, Kids: kids, If: where}
}

func leaf(token, from, to int) api.Kid { return api.Kid{Node: -1, Token: token, From: from, To: to} }

func kid(node, from, to int) api.Kid { return api.Kid{Node: node, Token: -1, From: from, To: to} }

func root(node int, where api.Diagram) api.Root { return api.Root{Node: node, If: where} }

// branch returns the tree of a production with the trees of its children.
func branch(production, from, to int, kids ...api.Tree) api.Tree {
	return slices.Concat(append([]api.Tree{{{Production: production, Token: -1, From: from, To: to}}}, kids...)...)
}

func word(token, from, to int) api.Tree {
	return api.Tree{{Production: -1, Token: token, From: from, To: to}}
}

// line returns a forest of n nodes, each of which is the kid of the one before it.
func line(n int) api.Forest {
	f := api.Forest{Nodes: make([]api.ForestNode, n), Roots: []api.Root{root(0, all())}}
	for i := range f.Nodes {
		f.Nodes[i] = copyNumber(i, node(0, 3, 3, alternative(all(), 0, kid(i+1, 3, 3))))
	}
	f.Nodes[n-1].Alternatives[0] = alternative(all(), 1)
	return f
}

// trees returns what Trees returns, and fails if an argument was changed or the result is not of the right form.
func trees(t *testing.T, f api.Forest, c api.Config) (api.Nat, api.Errno) {
	t.Helper()
	given := copyOf(f)
	n, e := count.Trees(given, c)
	unchanged(t, given, f)
	separate(t, n, given)
	expectForm(t, len(n) == 0, e)
	return n, e
}

// classes returns what Classes returns, and fails if an argument was changed or the result is not of the right form.
func classes(t *testing.T, f api.Forest, family api.Diagram) ([]api.Counted, api.Errno) {
	t.Helper()
	given, set := copyOf(f), copyOf(family)
	list, e := count.Classes(given, set)
	unchanged(t, given, f)
	unchanged(t, set, family)
	separate(t, list, given, set)
	expectForm(t, len(list) == 0, e)
	return list, e
}

// rank returns what Rank returns, and fails if an argument was changed or the result is not of the right form.
func rank(t *testing.T, f api.Forest, c api.Config, x api.Tree) (api.Nat, api.Errno) {
	t.Helper()
	given, tree := copyOf(f), copyOf(x)
	n, e := count.Rank(given, c, tree)
	unchanged(t, given, f)
	unchanged(t, tree, x)
	separate(t, n, given, tree)
	expectForm(t, len(n) == 0, e)
	return n, e
}

// unrank returns what Unrank returns, and fails if an argument was changed or the result is not of the right form.
func unrank(t *testing.T, f api.Forest, c api.Config, n api.Nat) (api.Tree, api.Errno) {
	t.Helper()
	given, number := copyOf(f), copyOf(n)
	x, e := count.Unrank(given, c, number)
	unchanged(t, given, f)
	unchanged(t, number, n)
	separate(t, x, given, number)
	expectForm(t, len(x) == 0, e)
	return x, e
}

// sample returns what Sample returns, and fails if an argument was changed or the result is not of the right form.
func sample(t *testing.T, f api.Forest, c api.Config, digits []uint32) (api.Tree, api.Errno) {
	t.Helper()
	given, list := copyOf(f), copyOf(digits)
	x, e := count.Sample(given, c, list)
	unchanged(t, given, f)
	unchanged(t, list, digits)
	separate(t, x, given, list)
	expectForm(t, len(x) == 0, e)
	return x, e
}

// expectForm fails if there is a result beside an error.
func expectForm(t *testing.T, zero bool, e api.Errno) {
	t.Helper()
	if e != api.OK && !zero {
		t.Fatalf("a result with error %d", e)
	}
}

// built returns the raw forest of the lines of a file.
func built(g api.Grammar, lines ...string) api.Forest {
	return sure(forest.Build(g, scanOf(g, lines...)))
}

// sums returns the raw forest of a sum of operands.
func sums(operands int) api.Forest {
	g := grammarOf(0, words("a", "+"), "E = a", "E = E + E")
	return built(g, strings.Repeat("a + ", operands-1)+"a")
}

func sameKids(a, b api.Alternative) bool {
	return a.Production == b.Production && slices.Equal(a.Kids, b.Kids)
}

func sameTree(a, b api.Tree) bool { return slices.Equal(a, b) }

func sameNat(a, b api.Nat) bool { return slices.Equal(a, b) }

// nat returns a natural number.
func nat(n int) api.Nat { return natural.Of(uint64(n)) }
