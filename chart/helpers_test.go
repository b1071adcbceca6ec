package chart_test

import (
	"reflect"
	"slices"
	"strconv"
	"strings"
	"testing"

	"koine/api"
	"koine/chart"
	"koine/diagram"
	"koine/formula"
	"koine/scanner"
	"koine/source"
)

// sure returns the result of a call that cannot fail.
func sure[T any](result T, e api.Errno) T {
	if e != api.OK {
		panic("error " + strconv.Itoa(int(e)))
	}
	return result
}

func all() api.Diagram                 { return diagram.Constant(true) }
func none() api.Diagram                { return diagram.Constant(false) }
func is(v int) api.Diagram             { return sure(diagram.Var(v)) }
func and(a, b api.Diagram) api.Diagram { return sure(diagram.And(a, b)) }
func or(a, b api.Diagram) api.Diagram  { return sure(diagram.Or(a, b)) }
func not(a api.Diagram) api.Diagram    { return sure(diagram.Not(a)) }

// names returns the names of n conditions: A, B and so on, and behind Z others.
func names(n int) []string {
	var list []string
	for i := range n {
		if i < 26 {
			list = append(list, string(rune('A'+i)))
		} else {
			list = append(list, "C"+strconv.Itoa(i))
		}
	}
	return list
}

// set returns the configurations of an expression over A to Z.
func set(expression string) api.Diagram {
	return sure(formula.Diagram(sure(formula.Parse(names(26), expression))))
}

// words returns ordinary tokens with literals that are always present, and layout tokens for blanks and line feeds.
func words(literals ...string) []api.Token {
	var list []api.Token
	for _, s := range literals {
		list = append(list, api.Token{Name: s, Literal: s, If: all()})
	}
	for _, s := range []string{" ", "\n"} {
		list = append(list, api.Token{Name: s, Class: api.Layout, Literal: s, If: all()})
	}
	return list
}

// grammarOf returns a grammar with n conditions and the productions of some lines like "E = E + E", behind which " :: " and an expression can say where it is present. A name of a token is this token, and the others are nonterminals, the first one of which is the start symbol.
func grammarOf(n int, tokens []api.Token, lines ...string) api.Grammar {
	g := api.Grammar{Conditions: names(n), Family: all(), Tokens: tokens}
	symbol := func(name string) api.Symbol {
		if i := slices.IndexFunc(tokens, func(t api.Token) bool { return t.Name == name }); i >= 0 {
			return api.Symbol{Token: true, Index: i}
		}
		if !slices.Contains(g.Nonterminals, name) {
			g.Nonterminals = append(g.Nonterminals, name)
		}
		return api.Symbol{Index: slices.Index(g.Nonterminals, name)}
	}
	for i, line := range lines {
		p := api.Production{Name: "p" + strconv.Itoa(i), If: all()}
		rule, where, limited := strings.Cut(line, " :: ")
		if limited {
			p.If = set(where)
		}
		parts := strings.Fields(rule)
		p.Left = symbol(parts[0]).Index
		for _, name := range parts[2:] {
			p.Right = append(p.Right, symbol(name))
		}
		g.Productions = append(g.Productions, p)
	}
	return g
}

// example returns the grammar of the chapter's examples.
func example() api.Grammar {
	return grammarOf(1, words("a", "+"), "E = a", "E = E + E :: A")
}

// scanOf returns the scan of a file with some lines.
func scanOf(g api.Grammar, lines ...string) api.Scan {
	s, p := source.Read(g.Conditions, []api.File{{Name: "m", Text: strings.Join(lines, "\n") + "\n"}}, "m")
	return sure(scanner.Scan(g, sure(s, p.E)))
}

// textScan returns the scan of a text that is the same in all configurations.
func textScan(g api.Grammar, text string) api.Scan {
	return sure(scanner.Scan(g, api.Source{Text: text, Segments: []api.Segment{{To: len(text), If: all()}}}))
}

// lexeme returns a lexeme with tokens that it can be everywhere.
func lexeme(from, to int, where api.Diagram, tokens ...int) api.Lexeme {
	l := api.Lexeme{From: from, To: to, If: where}
	for _, t := range tokens {
		l.Choices = append(l.Choices, api.Choice{Token: t, If: where})
	}
	return l
}

func span(left, from, to int, where api.Diagram) api.Span {
	return api.Span{Left: left, From: from, To: to, If: where}
}

func sameSpan(a, b api.Span) bool {
	return a.Left == b.Left && a.From == b.From && a.To == b.To && diagram.Same(a.If, b.If)
}

func sameSpans(a, b []api.Span) bool { return slices.EqualFunc(a, b, sameSpan) }

// copied returns a value that shares no memory with v, but for strings. All lists have spare capacity.
func copied(v reflect.Value) reflect.Value {
	c := reflect.New(v.Type()).Elem()
	switch v.Kind() {
	case reflect.Slice:
		c.Set(reflect.MakeSlice(v.Type(), v.Len(), v.Len()+2))
		for i := range v.Len() {
			c.Index(i).Set(copied(v.Index(i)))
		}
	case reflect.Struct:
		for i := range v.NumField() {
			c.Field(i).Set(copied(v.Field(i)))
		}
	default:
		c.Set(v)
	}
	return c
}

func copyOf[T any](v T) T { return copied(reflect.ValueOf(v)).Interface().(T) }

// lists calls a function for each list of a value.
func lists(v reflect.Value, visit func(list reflect.Value)) {
	switch v.Kind() {
	case reflect.Slice:
		visit(v)
		for i := range v.Len() {
			lists(v.Index(i), visit)
		}
	case reflect.Struct:
		for i := range v.NumField() {
			lists(v.Field(i), visit)
		}
	}
}

// unchanged fails if an argument that copyOf made is not equal to what it was a copy of, or its spare capacity was used.
func unchanged(t *testing.T, v, like any) {
	t.Helper()
	is := reflect.DeepEqual(copied(reflect.ValueOf(v)).Interface(), copied(reflect.ValueOf(like)).Interface())
	lists(reflect.ValueOf(v), func(list reflect.Value) {
		for i := list.Len(); i < list.Cap(); i++ {
			is = is && list.Slice(0, list.Cap()).Index(i).IsZero()
		}
	})
	if !is {
		t.Fatal("an argument was changed")
	}
}

// separate fails if a list of a result shares memory with another one, or with one of the arguments.
func separate(t *testing.T, result any, arguments ...any) {
	t.Helper()
	type region struct {
		from, to uintptr
		given    bool
	}
	var regions []region
	for i, v := range append([]any{result}, arguments...) {
		lists(reflect.ValueOf(v), func(list reflect.Value) {
			if list.Cap() > 0 {
				regions = append(regions, region{list.Pointer(), list.Pointer() + uintptr(list.Cap())*list.Type().Elem().Size(), i > 0})
			}
		})
	}
	slices.SortFunc(regions, func(a, b region) int { return int(a.from) - int(b.from) })
	end, given := uintptr(0), true
	for _, p := range regions {
		if p.from < end && !(p.given && given) {
			t.Fatal("a list of a result shares memory")
		}
		if p.to > end {
			end, given = p.to, p.given
		}
	}
}

// spans returns what Spans returns, and fails if an argument was changed or the result is not of the right form.
func spans(t *testing.T, g api.Grammar, x api.Scan) ([]api.Span, api.Errno) {
	t.Helper()
	grammar, scan := copyOf(g), copyOf(x)
	l, e := chart.Spans(grammar, scan)
	unchanged(t, grammar, g)
	unchanged(t, scan, x)
	separate(t, l, grammar, scan)
	if e != api.OK && len(l) > 0 {
		t.Fatalf("spans with error %d", e)
	}
	return l, e
}

// find returns what Find returns, and fails if an argument was changed or the result is not of the right form.
func find(t *testing.T, l []api.Span, left, from, to int) api.Diagram {
	t.Helper()
	list := copyOf(l)
	d := chart.Find(list, left, from, to)
	unchanged(t, list, l)
	separate(t, d, list)
	return d
}

// start returns what Start returns, and fails if an argument was changed or the result is not of the right form.
func start(t *testing.T, x api.Scan) ([]api.Span, api.Errno) {
	t.Helper()
	scan := copyOf(x)
	l, e := chart.Start(scan)
	unchanged(t, scan, x)
	separate(t, l, scan)
	if e != api.OK && len(l) > 0 {
		t.Fatalf("beginnings with error %d", e)
	}
	return l, e
}

// accepted returns what Accepted returns, and fails if an argument was changed or the result is not of the right form.
func accepted(t *testing.T, g api.Grammar, x api.Scan) (api.Diagram, api.Errno) {
	t.Helper()
	grammar, scan := copyOf(g), copyOf(x)
	d, e := chart.Accepted(grammar, scan)
	unchanged(t, grammar, g)
	unchanged(t, scan, x)
	separate(t, d, grammar, scan)
	if e != api.OK && !diagram.Same(d, none()) {
		t.Fatalf("a set with error %d", e)
	}
	return d, e
}

// goodSpans returns the chart of a scan that is valid for its grammar.
func goodSpans(t *testing.T, g api.Grammar, x api.Scan) []api.Span {
	t.Helper()
	l, e := spans(t, g, x)
	if e != api.OK {
		t.Fatalf("Spans of %v with %v: error %d", x, g, e)
	}
	return l
}

// expectSpans fails unless the chart of a scan is a list.
func expectSpans(t *testing.T, g api.Grammar, x api.Scan, want ...api.Span) {
	t.Helper()
	if got := goodSpans(t, g, x); !sameSpans(got, want) {
		t.Errorf("the chart is %v, want %v", got, want)
	}
}

// expectStart fails unless the beginnings of a scan are a list.
func expectStart(t *testing.T, x api.Scan, want ...api.Span) {
	t.Helper()
	if got, e := start(t, x); e != api.OK || !sameSpans(got, want) {
		t.Errorf("the beginnings are %v, error %d, want %v", got, e, want)
	}
}

// expectAccepted fails unless some configurations are accepted.
func expectAccepted(t *testing.T, g api.Grammar, x api.Scan, want api.Diagram) {
	t.Helper()
	if got, e := accepted(t, g, x); e != api.OK || !diagram.Same(got, want) {
		t.Errorf("accepted is %v, error %d, want %v", got, e, want)
	}
}
