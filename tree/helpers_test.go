package tree_test

import (
	"reflect"
	"slices"
	"strconv"
	"strings"
	"testing"

	"koine/api"
	"koine/diagram"
	"koine/formula"
	"koine/pattern"
	"koine/tree"
)

// sure returns the result of a call that cannot fail.
func sure[T any](result T, e api.Errno) T {
	if e != api.OK {
		panic("error " + strconv.Itoa(int(e)))
	}
	return result
}

func all() api.Diagram  { return diagram.Constant(true) }
func none() api.Diagram { return diagram.Constant(false) }

// names returns the names of n conditions: A, B and so on.
func names(n int) []string {
	var list []string
	for i := range n {
		list = append(list, string(rune('A'+i)))
	}
	return list
}

// set returns the configurations of an expression over A to Z.
func set(expression string) api.Diagram {
	return sure(formula.Diagram(sure(formula.Parse(names(26), expression))))
}

// token returns a token whose pattern is given between slashes, or whose literal is given; this is also its name.
func token(class int, text string, where api.Diagram) api.Token {
	t := api.Token{Name: text, Class: class, If: where}
	if len(text) < 2 || text[0] != '/' {
		t.Literal = text
		return t
	}
	t.Pattern = sure(pattern.Parse(text[1 : len(text)-1]))
	if class == api.Ordinary {
		t.Sample = sure(pattern.Shortest(t.Pattern))
	}
	return t
}

// ordinary returns ordinary tokens that are always present.
func ordinary(texts ...string) []api.Token {
	var list []api.Token
	for _, s := range texts {
		list = append(list, token(api.Ordinary, s, all()))
	}
	return list
}

// grammarOf returns a grammar with n conditions and the productions of some lines like "E = E + E", behind which " :: " and an expression can say where it is present. A name of a token is this token, and the others are nonterminals, the first one of which is the start symbol.
func grammarOf(n int, tokens []api.Token, lines ...string) api.Grammar {
	g := api.Grammar{Conditions: names(n), Family: all(), Tokens: tokens}
	symbol := func(name string) api.Symbol {
		if i := slices.IndexFunc(tokens, func(t api.Token) bool { return t.Name == name }); i >= 0 {
			return api.Symbol{Token: true, Index: i}
		}
		if !slices.Contains(g.Nonterminals, name) {
			g.Nonterminals = append(g.Nonterminals, name)
		}
		return api.Symbol{Index: slices.Index(g.Nonterminals, name)}
	}
	for i, line := range lines {
		p := api.Production{Name: "p" + strconv.Itoa(i), If: all()}
		rule, where, limited := strings.Cut(line, " :: ")
		if limited {
			p.If = set(where)
		}
		words := strings.Fields(rule)
		p.Left = symbol(words[0]).Index
		for _, name := range words[2:] {
			p.Right = append(p.Right, symbol(name))
		}
		g.Productions = append(g.Productions, p)
	}
	return g
}

// example returns the grammar of the chapter's examples, with layout and a remark.
func example() api.Grammar {
	tokens := append(ordinary("x", "+"), token(api.Layout, " ", all()), token(api.Remark, "/%[a-z]*;/", all()))
	return grammarOf(0, tokens, "E = x", "E = E + E")
}

// broken returns a grammar with an invalid token, and one with a cycle.
func broken() (invalid, cyclic api.Grammar) {
	invalid, cyclic = example(), grammarOf(0, ordinary("x", "+"), "E = x", "E = E + E", "E = E")
	invalid.Tokens[1].Name = "x"
	return invalid, cyclic
}

// leaf and node return trees: a leaf, and a node with the trees of its children.
func leaf(token, from, to int) api.Tree {
	return api.Tree{{Production: -1, Token: token, From: from, To: to}}
}

func node(production, from, to int, kids ...api.Tree) api.Tree {
	return slices.Concat(api.Tree{{Production: production, Token: -1, From: from, To: to}}, slices.Concat(kids...))
}

// sum returns the tree of the chapter's first example.
func sum() api.Tree {
	return node(1, 0, 3, node(0, 0, 1, leaf(0, 0, 1)), leaf(1, 1, 2), node(0, 2, 3, leaf(0, 2, 3)))
}

// A list is the nodes of a term, or of a part of one.
type list []api.TermNode

// word and branch return parts of terms: a leaf, and a node with the parts of its children.
func word(token int, text string, remarks ...string) list {
	return list{{Production: -1, Token: token, Text: text, Remarks: remarks}}
}

func branch(production int, kids ...list) list {
	return slices.Concat(list{{Production: production, Token: -1}}, slices.Concat(kids...))
}

func term(nodes list, tail ...string) api.Term { return api.Term{Nodes: nodes, Tail: tail} }

// A stencil is the nodes of a template, or of a part of one.
type stencil []api.TemplateNode

// hole, fresh and made return parts of templates: a hole, a leaf, and a node with the parts of its children.
func hole(n int) stencil { return stencil{{Hole: n, Production: -1, Token: -1}} }

func fresh(token int, text string) stencil {
	return stencil{{Hole: -1, Production: -1, Token: token, Text: text}}
}

func made(production int, kids ...stencil) stencil {
	return slices.Concat(stencil{{Hole: -1, Production: production, Token: -1}}, slices.Concat(kids...))
}

// rewrite returns a rewrite of all nodes of a production, and rewriteAt one of those with a certain child.
func rewrite(production int, template stencil) api.Rewrite {
	return api.Rewrite{Production: production, At: -1, Child: -1, Template: template}
}

func rewriteAt(production, at, child int, template stencil) api.Rewrite {
	return api.Rewrite{Production: production, At: at, Child: child, Template: template}
}

// text returns a plain text of words without bytes between them, each of which can be one of several tokens.
func text(tokens ...[]int) api.Plain {
	p := api.Plain{End: len(tokens), Stuck: -1}
	for i, list := range tokens {
		p.Words = append(p.Words, api.Word{From: i, To: i + 1, Tokens: list})
	}
	return p
}

// only returns a word's tokens.
func only(tokens ...int) []int { return tokens }

// copied returns a value that shares no memory with v, but for strings. All lists have spare capacity.
func copied(v reflect.Value) reflect.Value {
	c := reflect.New(v.Type()).Elem()
	switch v.Kind() {
	case reflect.Slice:
		c.Set(reflect.MakeSlice(v.Type(), v.Len(), v.Len()+2))
		for i := range v.Len() {
			c.Index(i).Set(copied(v.Index(i)))
		}
	case reflect.Struct:
		for i := range v.NumField() {
			c.Field(i).Set(copied(v.Field(i)))
		}
	default:
		c.Set(v)
	}
	return c
}

func copyOf[T any](v T) T { return copied(reflect.ValueOf(v)).Interface().(T) }

// equal reports whether two values are equal, where empty lists are equal to nil ones.
func equal[T any](a, b T) bool { return reflect.DeepEqual(copyOf(a), copyOf(b)) }

// lists calls a function for each list of a value.
func lists(v reflect.Value, visit func(list reflect.Value)) {
	switch v.Kind() {
	case reflect.Slice:
		visit(v)
		for i := range v.Len() {
			lists(v.Index(i), visit)
		}
	case reflect.Struct:
		for i := range v.NumField() {
			lists(v.Field(i), visit)
		}
	}
}

// unchanged fails unless a value that copyOf has returned is still like another one, with its spare capacity.
func unchanged[T any](t *testing.T, v, like T) {
	t.Helper()
	is := equal(v, like)
	lists(reflect.ValueOf(v), func(list reflect.Value) {
		for i := list.Len(); i < list.Cap(); i++ {
			is = is && list.Slice(0, list.Cap()).Index(i).IsZero()
		}
	})
	if !is {
		t.Fatal("an argument was changed")
	}
}

// separate fails if a list of a result shares memory with another one, or with one of the arguments.
func separate(t *testing.T, result any, arguments ...any) {
	t.Helper()
	type place struct {
		from, to uintptr
		given    bool
	}
	var places []place
	for i, v := range append([]any{result}, arguments...) {
		lists(reflect.ValueOf(v), func(list reflect.Value) {
			if list.Cap() > 0 {
				places = append(places, place{list.Pointer(), list.Pointer() + uintptr(list.Cap())*list.Type().Elem().Size(), i > 0})
			}
		})
	}
	slices.SortFunc(places, func(a, b place) int { return int(a.from) - int(b.from) })
	end, given := uintptr(0), true
	for _, p := range places {
		if p.from < end && !(p.given && given) {
			t.Fatal("a list of a result shares memory")
		}
		if p.to > end {
			end, given = p.to, p.given
		}
	}
}

// zero fails if a result is not zero although there is none.
func zero[T any](t *testing.T, isThere bool, result T) {
	t.Helper()
	var nothing T
	if !isThere && !equal(result, nothing) {
		t.Fatalf("the result %v where there is none", result)
	}
}

// The following functions call those of the package, and fail if an argument was changed or a result is not of the right form.

func check(t *testing.T, g api.Grammar, c api.Config, p api.Plain, x api.Tree) api.Errno {
	t.Helper()
	given, plain, nodes := copyOf(g), copyOf(p), copyOf(x)
	e := tree.Check(given, c, plain, nodes)
	unchanged(t, given, g)
	unchanged(t, plain, p)
	unchanged(t, nodes, x)
	return e
}

func shape(t *testing.T, g api.Grammar, c api.Config, x api.Tree) api.Errno {
	t.Helper()
	given, nodes := copyOf(g), copyOf(x)
	e := tree.Shape(given, c, nodes)
	unchanged(t, given, g)
	unchanged(t, nodes, x)
	return e
}

func behind(t *testing.T, g api.Grammar, x api.Tree, i int) (int, bool) {
	t.Helper()
	given, nodes := copyOf(g), copyOf(x)
	n, ok := tree.Behind(given, nodes, i)
	unchanged(t, given, g)
	unchanged(t, nodes, x)
	zero(t, ok, n)
	return n, ok
}

func kids(t *testing.T, g api.Grammar, x api.Tree, i int) ([]int, bool) {
	t.Helper()
	given, nodes := copyOf(g), copyOf(x)
	list, ok := tree.Kids(given, nodes, i)
	unchanged(t, given, g)
	unchanged(t, nodes, x)
	zero(t, ok, list)
	return list, ok
}

func subtree(t *testing.T, g api.Grammar, x api.Tree, i int) (api.Tree, api.Errno) {
	t.Helper()
	given, nodes := copyOf(g), copyOf(x)
	y, e := tree.Subtree(given, nodes, i)
	unchanged(t, given, g)
	unchanged(t, nodes, x)
	separate(t, y, nodes)
	zero(t, e == api.OK, y)
	return y, e
}

func replace(t *testing.T, g api.Grammar, x api.Tree, i int, u api.Tree) (api.Tree, api.Errno) {
	t.Helper()
	given, nodes, part := copyOf(g), copyOf(x), copyOf(u)
	y, e := tree.Replace(given, nodes, i, part)
	unchanged(t, given, g)
	unchanged(t, nodes, x)
	unchanged(t, part, u)
	separate(t, y, nodes, part)
	zero(t, e == api.OK, y)
	return y, e
}

func compare(t *testing.T, g api.Grammar, a, b api.Tree) int {
	t.Helper()
	given, x, y := copyOf(g), copyOf(a), copyOf(b)
	n := tree.Compare(given, x, y)
	unchanged(t, given, g)
	unchanged(t, x, a)
	unchanged(t, y, b)
	return n
}

func termOf(t *testing.T, g api.Grammar, s string, p api.Plain, x api.Tree) (api.Term, api.Errno) {
	t.Helper()
	given, plain, nodes := copyOf(g), copyOf(p), copyOf(x)
	y, e := tree.Term(given, s, plain, nodes)
	unchanged(t, given, g)
	unchanged(t, plain, p)
	unchanged(t, nodes, x)
	separate(t, y, plain, nodes)
	zero(t, e == api.OK, y)
	return y, e
}

func checkTerm(t *testing.T, g api.Grammar, c api.Config, left int, x api.Term) api.Errno {
	t.Helper()
	given, y := copyOf(g), copyOf(x)
	e := tree.CheckTerm(given, c, left, y)
	unchanged(t, given, g)
	unchanged(t, y, x)
	return e
}

func same(t *testing.T, a, b api.Term) bool {
	t.Helper()
	x, y := copyOf(a), copyOf(b)
	is := tree.Same(x, y)
	unchanged(t, x, a)
	unchanged(t, y, b)
	return is
}

func checkMapping(t *testing.T, g, h api.Grammar, m api.Mapping) api.Errno {
	t.Helper()
	from, to, mapping := copyOf(g), copyOf(h), copyOf(m)
	e := tree.CheckMapping(from, to, mapping)
	unchanged(t, from, g)
	unchanged(t, to, h)
	unchanged(t, mapping, m)
	return e
}

func mapped(t *testing.T, g, h api.Grammar, m api.Mapping, x api.Term) (api.Term, api.Errno) {
	t.Helper()
	from, to, mapping, given := copyOf(g), copyOf(h), copyOf(m), copyOf(x)
	y, e := tree.Map(from, to, mapping, given)
	unchanged(t, from, g)
	unchanged(t, to, h)
	unchanged(t, mapping, m)
	unchanged(t, given, x)
	separate(t, y, mapping, given)
	zero(t, e == api.OK, y)
	return y, e
}
