package restrict_test

import (
	"reflect"
	"slices"
	"strconv"
	"strings"
	"testing"

	"koine/api"
	"koine/diagram"
	"koine/forest"
	"koine/formula"
	"koine/pattern"
	"koine/restrict"
	"koine/scanner"
	"koine/source"
)

// sure returns the result of a call that cannot fail.
func sure[T any](result T, e api.Errno) T {
	if e != api.OK {
		panic("error " + strconv.Itoa(int(e)))
	}
	return result
}

func all() api.Diagram                 { return diagram.Constant(true) }
func none() api.Diagram                { return diagram.Constant(false) }
func is(v int) api.Diagram             { return sure(diagram.Var(v)) }
func and(a, b api.Diagram) api.Diagram { return sure(diagram.And(a, b)) }
func or(a, b api.Diagram) api.Diagram  { return sure(diagram.Or(a, b)) }
func not(a api.Diagram) api.Diagram    { return sure(diagram.Not(a)) }

// names returns the names of n conditions: A, B and so on, and behind Z others.
func names(n int) []string {
	var list []string
	for i := range n {
		if i < 26 {
			list = append(list, string(rune('A'+i)))
		} else {
			list = append(list, "C"+strconv.Itoa(i))
		}
	}
	return list
}

// set returns the configurations of an expression over A to Z.
func set(expression string) api.Diagram {
	return sure(formula.Diagram(sure(formula.Parse(names(26), expression))))
}

// words returns ordinary tokens with literals that are always present, then layout tokens for blanks and line feeds, and one for remarks in braces, which can have several lines.
func words(literals ...string) []api.Token {
	var list []api.Token
	for _, s := range literals {
		list = append(list, api.Token{Name: s, Literal: s, If: all()})
	}
	for _, s := range []string{" ", "\n"} {
		list = append(list, api.Token{Name: s, Class: api.Layout, Literal: s, If: all()})
	}
	return append(list, api.Token{Name: "{}", Class: api.Remark, Pattern: sure(pattern.Parse(`{([a-z]|\x20|\x0a)*}`)), If: all()})
}

// grammarOf returns a grammar with n conditions and the productions of some lines like "E = E + E", behind which " :: " and an expression can say where it is present. A name of a token is this token, and the others are nonterminals, the first one of which is the start symbol.
func grammarOf(n int, tokens []api.Token, lines ...string) api.Grammar {
	g := api.Grammar{Conditions: names(n), Family: all(), Tokens: tokens}
	symbol := func(name string) api.Symbol {
		if i := slices.IndexFunc(tokens, func(t api.Token) bool { return t.Name == name }); i >= 0 {
			return api.Symbol{Token: true, Index: i}
		}
		if !slices.Contains(g.Nonterminals, name) {
			g.Nonterminals = append(g.Nonterminals, name)
		}
		return api.Symbol{Index: slices.Index(g.Nonterminals, name)}
	}
	for i, line := range lines {
		p := api.Production{Name: "p" + strconv.Itoa(i), If: all()}
		rule, where, limited := strings.Cut(line, " :: ")
		if limited {
			p.If = set(where)
		}
		parts := strings.Fields(rule)
		p.Left = symbol(parts[0]).Index
		for _, name := range parts[2:] {
			p.Right = append(p.Right, symbol(name))
		}
		g.Productions = append(g.Productions, p)
	}
	return g
}

// follow and precede return filters that are always present.
func follow(left int, tokens ...int) api.Filter {
	return api.Filter{Kind: api.FilterFollow, Left: left, Tokens: tokens, If: all()}
}

func precede(left int, tokens ...int) api.Filter {
	return api.Filter{Kind: api.FilterPrecede, Left: left, Tokens: tokens, If: all()}
}

// offside, align, indent and sameLine return constraints.
func offside(a int) api.Constraint     { return api.Constraint{Kind: api.Offside, A: a} }
func align(a, b int) api.Constraint    { return api.Constraint{Kind: api.Align, A: a, B: b} }
func indent(a, b int) api.Constraint   { return api.Constraint{Kind: api.Indent, A: a, B: b} }
func sameLine(a, b int) api.Constraint { return api.Constraint{Kind: api.SameLine, A: a, B: b} }

// follows, precedes and lays return violations of the three steps.
func follows(node, rule int) api.Violation {
	return api.Violation{Step: api.StepFollow, Node: node, Rule: rule}
}

func precedes(node, rule int) api.Violation {
	return api.Violation{Step: api.StepPrecede, Node: node, Rule: rule}
}

func lays(node, rule int) api.Violation {
	return api.Violation{Step: api.StepLayout, Node: node, Rule: rule}
}

// blocks returns the grammar of the chapter's examples.
func blocks() api.Grammar {
	g := grammarOf(0, words("x", "if"), "B = I", "B = B I", "I = x", "I = if x B")
	g.Productions[1].Layout = []api.Constraint{align(0, 1)}
	g.Productions[3].Layout = []api.Constraint{indent(0, 2), offside(2)}
	g.Filters = []api.Filter{follow(1, 1)}
	return g
}

// node returns the tree of a production with the trees of its children, and leaf that of a token.
func node(production, from, to int, kids ...api.Tree) api.Tree {
	return slices.Concat(api.Tree{{Production: production, Token: -1, From: from, To: to}}, slices.Concat(kids...))
}

func leaf(token, from, to int) api.Tree {
	return api.Tree{{Production: -1, Token: token, From: from, To: to}}
}

// plainOf returns the plain text of some lines in a configuration.
func plainOf(g api.Grammar, c api.Config, lines ...string) api.Plain {
	p := sure(scanner.Plain(g, c, strings.Join(lines, "\n")+"\n"))
	if p.Stuck >= 0 {
		panic("a text that is stuck")
	}
	return p
}

// treesOf returns the trees of some lines, none of which is a directive, in a configuration, in their order.
func treesOf(g api.Grammar, c api.Config, lines ...string) []api.Tree {
	s, at := source.Read(g.Conditions, []api.File{{Name: "m", Text: strings.Join(lines, "\n") + "\n"}}, "m")
	f := sure(forest.Build(g, sure(scanner.Scan(g, sure(s, at.E)))))
	list, complete := forest.Trees(f, c, 100000)
	if !complete {
		panic("too many trees")
	}
	return list
}

// treeOf returns the tree of some lines that has certain productions in preorder.
func treeOf(g api.Grammar, c api.Config, productions []int, lines ...string) api.Tree {
	for _, x := range treesOf(g, c, lines...) {
		var list []int
		for _, n := range x {
			if n.Production >= 0 {
				list = append(list, n.Production)
			}
		}
		if slices.Equal(list, productions) {
			return x
		}
	}
	panic("there is no such tree")
}

// copied returns a value that shares no memory with v, but for strings. All lists have spare capacity.
func copied(v reflect.Value) reflect.Value {
	c := reflect.New(v.Type()).Elem()
	switch v.Kind() {
	case reflect.Slice:
		c.Set(reflect.MakeSlice(v.Type(), v.Len(), v.Len()+2))
		for i := range v.Len() {
			c.Index(i).Set(copied(v.Index(i)))
		}
	case reflect.Struct:
		for i := range v.NumField() {
			c.Field(i).Set(copied(v.Field(i)))
		}
	default:
		c.Set(v)
	}
	return c
}

func copyOf[T any](v T) T { return copied(reflect.ValueOf(v)).Interface().(T) }

// lists calls a function for each list of a value.
func lists(v reflect.Value, visit func(list reflect.Value)) {
	switch v.Kind() {
	case reflect.Slice:
		visit(v)
		for i := range v.Len() {
			lists(v.Index(i), visit)
		}
	case reflect.Struct:
		for i := range v.NumField() {
			lists(v.Field(i), visit)
		}
	}
}

// unchanged fails if an argument that copyOf made is not equal to what it was a copy of, or its spare capacity was used.
func unchanged(t *testing.T, v, like any) {
	t.Helper()
	is := reflect.DeepEqual(copied(reflect.ValueOf(v)).Interface(), copied(reflect.ValueOf(like)).Interface())
	lists(reflect.ValueOf(v), func(list reflect.Value) {
		for i := list.Len(); i < list.Cap(); i++ {
			is = is && list.Slice(0, list.Cap()).Index(i).IsZero()
		}
	})
	if !is {
		t.Fatal("an argument was changed")
	}
}

// The following functions call those of the package, and fail if an argument was changed or a result is not of the right form.

func violations(t *testing.T, g api.Grammar, c api.Config, p api.Plain, x api.Tree) ([]api.Violation, api.Errno) {
	t.Helper()
	given, plain, nodes := copyOf(g), copyOf(p), copyOf(x)
	list, e := restrict.Violations(given, c, plain, nodes)
	unchanged(t, given, g)
	unchanged(t, plain, p)
	unchanged(t, nodes, x)
	if e != api.OK && len(list) > 0 {
		t.Fatalf("violations with error %d", e)
	}
	return list, e
}

func survives(t *testing.T, g api.Grammar, c api.Config, p api.Plain, x api.Tree) bool {
	t.Helper()
	given, plain, nodes := copyOf(g), copyOf(p), copyOf(x)
	is := restrict.Survives(given, c, plain, nodes)
	unchanged(t, given, g)
	unchanged(t, plain, p)
	unchanged(t, nodes, x)
	return is
}

func between(t *testing.T, p api.Plain, from, to int) (int, int, bool) {
	t.Helper()
	plain := copyOf(p)
	first, last, ok := restrict.Words(plain, from, to)
	unchanged(t, plain, p)
	if !ok && (first != 0 || last != 0) {
		t.Fatalf("the words %d and %d where there are none", first, last)
	}
	return first, last, ok
}

// expectViolations fails unless a tree has some violations, and survives if there are none.
func expectViolations(t *testing.T, g api.Grammar, c api.Config, p api.Plain, x api.Tree, want ...api.Violation) {
	t.Helper()
	got, e := violations(t, g, c, p, x)
	if e != api.OK || !slices.Equal(got, want) {
		t.Errorf("Violations of %v: %v, error %d, want %v", x, got, e, want)
	}
	if is := survives(t, g, c, p, x); is != (len(want) == 0) {
		t.Errorf("Survives of %v: %v with the violations %v", x, is, want)
	}
}

// expectError fails unless Violations has an error, and the tree does not survive.
func expectError(t *testing.T, name string, g api.Grammar, c api.Config, p api.Plain, x api.Tree, want api.Errno) {
	t.Helper()
	if _, e := violations(t, g, c, p, x); e != want {
		t.Errorf("%s: Violations has error %d, want %d", name, e, want)
	}
	if survives(t, g, c, p, x) {
		t.Errorf("%s: a tree survives", name)
	}
}
