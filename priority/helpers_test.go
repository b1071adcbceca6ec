package priority_test

import (
	"reflect"
	"slices"
	"strconv"
	"strings"
	"testing"

	"koine/api"
	"koine/diagram"
	"koine/forest"
	"koine/formula"
	"koine/priority"
	"koine/scanner"
	"koine/source"
)

// sure returns the result of a call that cannot fail.
func sure[T any](result T, e api.Errno) T {
	if e != api.OK {
		panic("error " + strconv.Itoa(int(e)))
	}
	return result
}

func all() api.Diagram                 { return diagram.Constant(true) }
func none() api.Diagram                { return diagram.Constant(false) }
func is(v int) api.Diagram             { return sure(diagram.Var(v)) }
func and(a, b api.Diagram) api.Diagram { return sure(diagram.And(a, b)) }
func or(a, b api.Diagram) api.Diagram  { return sure(diagram.Or(a, b)) }
func not(a api.Diagram) api.Diagram    { return sure(diagram.Not(a)) }

// names returns the names of n conditions: A, B and so on, and behind Z others.
func names(n int) []string {
	var list []string
	for i := range n {
		if i < 26 {
			list = append(list, string(rune('A'+i)))
		} else {
			list = append(list, "C"+strconv.Itoa(i))
		}
	}
	return list
}

// set returns the configurations of an expression over A to Z.
func set(expression string) api.Diagram {
	return sure(formula.Diagram(sure(formula.Parse(names(26), expression))))
}

// words returns ordinary tokens with literals that are always present, and layout tokens for blanks and line feeds.
func words(literals ...string) []api.Token {
	var list []api.Token
	for _, s := range literals {
		list = append(list, api.Token{Name: s, Literal: s, If: all()})
	}
	for _, s := range []string{" ", "\n"} {
		list = append(list, api.Token{Name: s, Class: api.Layout, Literal: s, If: all()})
	}
	return list
}

// grammarOf returns a grammar with n conditions and the productions of some lines like "E = E + E", behind which " :: " and an expression can say where it is present. A name of a token is this token, and the others are nonterminals, the first one of which is the start symbol.
func grammarOf(n int, tokens []api.Token, lines ...string) api.Grammar {
	g := api.Grammar{Conditions: names(n), Family: all(), Tokens: tokens}
	symbol := func(name string) api.Symbol {
		if i := slices.IndexFunc(tokens, func(t api.Token) bool { return t.Name == name }); i >= 0 {
			return api.Symbol{Token: true, Index: i}
		}
		if !slices.Contains(g.Nonterminals, name) {
			g.Nonterminals = append(g.Nonterminals, name)
		}
		return api.Symbol{Index: slices.Index(g.Nonterminals, name)}
	}
	for i, line := range lines {
		p := api.Production{Name: "p" + strconv.Itoa(i), If: all()}
		rule, where, limited := strings.Cut(line, " :: ")
		if limited {
			p.If = set(where)
		}
		parts := strings.Fields(rule)
		p.Left = symbol(parts[0]).Index
		for _, name := range parts[2:] {
			p.Right = append(p.Right, symbol(name))
		}
		g.Productions = append(g.Productions, p)
	}
	return g
}

// scanOf returns the scan of a file with some lines.
func scanOf(g api.Grammar, lines ...string) api.Scan {
	s, p := source.Read(g.Conditions, []api.File{{Name: "m", Text: strings.Join(lines, "\n") + "\n"}}, "m")
	return sure(scanner.Scan(g, sure(s, p.E)))
}

// copied returns a value that shares no memory with v, but for strings. All lists have spare capacity.
func copied(v reflect.Value) reflect.Value {
	c := reflect.New(v.Type()).Elem()
	switch v.Kind() {
	case reflect.Slice:
		c.Set(reflect.MakeSlice(v.Type(), v.Len(), v.Len()+2))
		for i := range v.Len() {
			c.Index(i).Set(copied(v.Index(i)))
		}
	case reflect.Struct:
		for i := range v.NumField() {
			c.Field(i).Set(copied(v.Field(i)))
		}
	default:
		c.Set(v)
	}
	return c
}

func copyOf[T any](v T) T { return copied(reflect.ValueOf(v)).Interface().(T) }

// lists calls a function for each list of a value.
func lists(v reflect.Value, visit func(list reflect.Value)) {
	switch v.Kind() {
	case reflect.Slice:
		visit(v)
		for i := range v.Len() {
			lists(v.Index(i), visit)
		}
	case reflect.Struct:
		for i := range v.NumField() {
			lists(v.Field(i), visit)
		}
	}
}

// unchanged fails if an argument that copyOf made is not equal to what it was a copy of, or its spare capacity was used.
func unchanged(t *testing.T, v, like any) {
	t.Helper()
	is := reflect.DeepEqual(copied(reflect.ValueOf(v)).Interface(), copied(reflect.ValueOf(like)).Interface())
	lists(reflect.ValueOf(v), func(list reflect.Value) {
		for i := list.Len(); i < list.Cap(); i++ {
			is = is && list.Slice(0, list.Cap()).Index(i).IsZero()
		}
	})
	if !is {
		t.Fatal("an argument was changed")
	}
}

// separate fails if a list of a result shares memory with another one, or with one of the arguments.
func separate(t *testing.T, result any, arguments ...any) {
	t.Helper()
	type region struct {
		from, to uintptr
		given    bool
	}
	var regions []region
	for i, v := range append([]any{result}, arguments...) {
		lists(reflect.ValueOf(v), func(list reflect.Value) {
			if list.Cap() > 0 {
				regions = append(regions, region{list.Pointer(), list.Pointer() + uintptr(list.Cap())*list.Type().Elem().Size(), i > 0})
			}
		})
	}
	slices.SortFunc(regions, func(a, b region) int { return int(a.from) - int(b.from) })
	end, given := uintptr(0), true
	for _, p := range regions {
		if p.from < end && !(p.given && given) {
			t.Fatal("a list of a result shares memory")
		}
		if p.to > end {
			end, given = p.to, p.given
		}
	}
}

// node returns the tree of a production with the trees of its children, and leaf that of a token.
func node(production, from, to int, kids ...api.Tree) api.Tree {
	return slices.Concat(api.Tree{{Production: production, Token: -1, From: from, To: to}}, slices.Concat(kids...))
}

func leaf(token, from, to int) api.Tree {
	return api.Tree{{Production: -1, Token: token, From: from, To: to}}
}

// level returns a level that is always present.
func level(assoc int, productions ...int) api.Level {
	return api.Level{Productions: productions, Assoc: assoc, If: all()}
}

// child and spine return filters.
func child(parent, at, child int, where api.Diagram) api.Filter {
	return api.Filter{Kind: api.FilterChild, Parent: parent, At: at, Child: child, If: where}
}

func spine(parent, at, child int, where api.Diagram) api.Filter {
	return api.Filter{Kind: api.FilterSpine, Parent: parent, At: at, Child: child, If: where}
}

// treesOf returns the trees of the lines of a file in a configuration, in their order.
func treesOf(g api.Grammar, c api.Config, lines ...string) []api.Tree {
	f := sure(forest.Build(g, scanOf(g, lines...)))
	list, complete := forest.Trees(f, c, 100000)
	if !complete {
		panic("too many trees")
	}
	return list
}

// arithmetic returns the grammar of the chapter's examples.
func arithmetic() api.Grammar {
	g := grammarOf(0, words("a", "*", "+", "-", "(", ")"), "E = a", "E = E * E", "E = E + E", "E = - E", "E = ( E )")
	g.Productions[4].Bracket = true
	g.Levels = []api.Level{level(api.AssocLeft, 1), level(api.AssocLeft, 2)}
	return g
}

// The following functions call those of the package, and fail if an argument was changed or a result is not of the right form.

func conflicts(t *testing.T, g api.Grammar) ([]api.Filter, api.Errno) {
	t.Helper()
	given := copyOf(g)
	list, e := priority.Conflicts(given)
	unchanged(t, given, g)
	separate(t, list, given)
	if e != api.OK && len(list) > 0 {
		t.Fatalf("conflicts with error %d", e)
	}
	return list, e
}

func violations(t *testing.T, g api.Grammar, c api.Config, x api.Tree) ([]api.Violation, api.Errno) {
	t.Helper()
	given, nodes := copyOf(g), copyOf(x)
	list, e := priority.Violations(given, c, nodes)
	unchanged(t, given, g)
	unchanged(t, nodes, x)
	if e != api.OK && len(list) > 0 {
		t.Fatalf("violations with error %d", e)
	}
	return list, e
}

func survives(t *testing.T, g api.Grammar, c api.Config, x api.Tree) bool {
	t.Helper()
	given, nodes := copyOf(g), copyOf(x)
	is := priority.Survives(given, c, nodes)
	unchanged(t, given, g)
	unchanged(t, nodes, x)
	return is
}

func spineOf(t *testing.T, g api.Grammar, x api.Tree, i int) []int {
	t.Helper()
	given, nodes := copyOf(g), copyOf(x)
	list := priority.Spine(given, nodes, i)
	unchanged(t, given, g)
	unchanged(t, nodes, x)
	return list
}

// sameConflict reports whether two conflicts are equal, in all fields.
func sameConflict(a, b api.Filter) bool {
	return a.Kind == b.Kind && a.Parent == b.Parent && a.At == b.At && a.Child == b.Child &&
		a.Left == b.Left && a.Token == b.Token && len(a.Tokens) == 0 && len(b.Tokens) == 0 && diagram.Same(a.If, b.If)
}

// expectConflicts fails unless a grammar has some conflicts.
func expectConflicts(t *testing.T, g api.Grammar, want ...api.Filter) {
	t.Helper()
	got, e := conflicts(t, g)
	if e != api.OK || !slices.EqualFunc(got, want, sameConflict) {
		t.Errorf("Conflicts: %v, error %d, want %v", got, e, want)
	}
}

// expectViolations fails unless a tree has some violations, and survives if there are none.
func expectViolations(t *testing.T, g api.Grammar, c api.Config, x api.Tree, want ...api.Violation) {
	t.Helper()
	got, e := violations(t, g, c, x)
	if e != api.OK || !slices.Equal(got, want) {
		t.Errorf("Violations of %v: %v, error %d, want %v", x, got, e, want)
	}
	if is := survives(t, g, c, x); is != (len(want) == 0) {
		t.Errorf("Survives of %v: %v with the violations %v", x, is, want)
	}
}
