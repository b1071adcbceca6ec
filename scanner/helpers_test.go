package scanner_test

import (
	"reflect"
	"slices"
	"strconv"
	"strings"
	"testing"

	"koine/api"
	"koine/diagram"
	"koine/formula"
	"koine/pattern"
	"koine/scanner"
	"koine/source"
)

// sure returns the result of a call that cannot fail.
func sure[T any](result T, e api.Errno) T {
	if e != api.OK {
		panic("error " + strconv.Itoa(int(e)))
	}
	return result
}

func all() api.Diagram                 { return diagram.Constant(true) }
func none() api.Diagram                { return diagram.Constant(false) }
func and(a, b api.Diagram) api.Diagram { return sure(diagram.And(a, b)) }
func or(a, b api.Diagram) api.Diagram  { return sure(diagram.Or(a, b)) }
func not(a api.Diagram) api.Diagram    { return sure(diagram.Not(a)) }

// names returns the names of n conditions: A, B and so on.
func names(n int) []string {
	var list []string
	for i := range n {
		list = append(list, string(rune('A'+i)))
	}
	return list
}

// set returns the configurations of an expression over A to Z.
func set(expression string) api.Diagram {
	return sure(formula.Diagram(sure(formula.Parse(names(26), expression))))
}

// token returns a token whose pattern is given between slashes, or whose literal is given.
func token(class int, text string, where api.Diagram) api.Token {
	t := api.Token{Name: strconv.Itoa(class) + text, Class: class, If: where}
	if len(text) < 2 || text[0] != '/' {
		t.Literal = text
		return t
	}
	t.Pattern = sure(pattern.Parse(text[1 : len(text)-1]))
	if class == api.Ordinary {
		t.Sample = sure(pattern.Shortest(t.Pattern))
	}
	return t
}

// grammarOf returns a grammar with n conditions, all configurations and some tokens.
func grammarOf(n int, tokens ...api.Token) api.Grammar {
	return api.Grammar{Conditions: names(n), Family: all(), Tokens: tokens, Nonterminals: []string{"S"}}
}

// reserve returns a filter that reserves a token for the literals of others.
func reserve(where api.Diagram, token int, literals ...int) api.Filter {
	return api.Filter{Kind: api.FilterReserve, Token: token, Tokens: literals, If: where}
}

// example returns the grammar of the chapter's examples.
func example() api.Grammar {
	g := grammarOf(1, token(api.Ordinary, "/[a-z][a-z]*/", all()), token(api.Ordinary, "if", all()), token(api.Ordinary, "=", all()), token(api.Layout, `/(\x20|\x0a)(\x20|\x0a)*/`, all()))
	g.Filters = []api.Filter{reserve(set("A"), 0, 1)}
	return g
}

// read returns the source of a file with some lines.
func read(n int, lines ...string) api.Source {
	s, p := source.Read(names(n), []api.File{{Name: "m", Text: strings.Join(lines, "\n") + "\n"}}, "m")
	return sure(s, p.E)
}

// copied returns a value that shares no memory with v, but for strings. All lists have spare capacity.
func copied(v reflect.Value) reflect.Value {
	c := reflect.New(v.Type()).Elem()
	switch v.Kind() {
	case reflect.Slice:
		c.Set(reflect.MakeSlice(v.Type(), v.Len(), v.Len()+2))
		for i := range v.Len() {
			c.Index(i).Set(copied(v.Index(i)))
		}
	case reflect.Struct:
		for i := range v.NumField() {
			c.Field(i).Set(copied(v.Field(i)))
		}
	default:
		c.Set(v)
	}
	return c
}

func copyOf[T any](v T) T { return copied(reflect.ValueOf(v)).Interface().(T) }

// samePlain reports whether two plain texts are equal.
func samePlain(a, b api.Plain) bool {
	return sameWords(a.Words, b.Words) && sameWords(a.Remarks, b.Remarks) && a.End == b.End && a.Stuck == b.Stuck
}

func sameWords(a, b []api.Word) bool {
	return slices.EqualFunc(a, b, func(v, w api.Word) bool {
		return v.From == w.From && v.To == w.To && v.Column == w.Column && v.First == w.First && slices.Equal(v.Tokens, w.Tokens)
	})
}

// sameScan reports whether two scans are equal.
func sameScan(a, b api.Scan) bool {
	sameFault := func(v, w api.Fault) bool { return v.At == w.At && v.Cut == w.Cut && diagram.Same(v.If, w.If) }
	return sameLexemes(a.Lexemes, b.Lexemes) && sameLexemes(a.Remarks, b.Remarks) &&
		slices.EqualFunc(a.Faults, b.Faults, sameFault) && diagram.Same(a.Good, b.Good) && a.End == b.End
}

func sameLexemes(a, b []api.Lexeme) bool {
	sameChoice := func(v, w api.Choice) bool { return v.Token == w.Token && diagram.Same(v.If, w.If) }
	return slices.EqualFunc(a, b, func(v, w api.Lexeme) bool {
		return v.From == w.From && v.To == w.To && v.Column == w.Column && v.First == w.First &&
			diagram.Same(v.If, w.If) && slices.EqualFunc(v.Choices, w.Choices, sameChoice)
	})
}

// lists calls a function for each list of a value.
func lists(v reflect.Value, visit func(list reflect.Value)) {
	switch v.Kind() {
	case reflect.Slice:
		visit(v)
		for i := range v.Len() {
			lists(v.Index(i), visit)
		}
	case reflect.Struct:
		for i := range v.NumField() {
			lists(v.Field(i), visit)
		}
	}
}

// unchanged fails unless a value that copyOf has returned is still like another one, with its spare capacity.
func unchanged[T any](t *testing.T, v, like T) {
	t.Helper()
	is := reflect.DeepEqual(copyOf(v), copyOf(like))
	lists(reflect.ValueOf(v), func(list reflect.Value) {
		for i := list.Len(); i < list.Cap(); i++ {
			is = is && list.Slice(0, list.Cap()).Index(i).IsZero()
		}
	})
	if !is {
		t.Fatal("an argument was changed")
	}
}

// separate fails if a list of a result shares memory with another one, or with one of the arguments.
func separate(t *testing.T, result any, arguments ...any) {
	t.Helper()
	type place struct {
		from, to uintptr
		given    bool
	}
	var places []place
	for i, v := range append([]any{result}, arguments...) {
		lists(reflect.ValueOf(v), func(list reflect.Value) {
			if list.Cap() > 0 {
				places = append(places, place{list.Pointer(), list.Pointer() + uintptr(list.Cap())*list.Type().Elem().Size(), i > 0})
			}
		})
	}
	slices.SortFunc(places, func(a, b place) int { return int(a.from) - int(b.from) })
	end, given := uintptr(0), true
	for _, p := range places {
		if p.from < end && !(p.given && given) {
			t.Fatal("a list of a result shares memory")
		}
		if p.to > end {
			end, given = p.to, p.given
		}
	}
}

// plain returns what Plain returns, and fails if an argument was changed or the result is not of the right form.
func plain(t *testing.T, g api.Grammar, c api.Config, text string) (api.Plain, api.Errno) {
	t.Helper()
	given := copyOf(g)
	p, e := scanner.Plain(given, c, text)
	unchanged(t, given, g)
	separate(t, p, given)
	if e != api.OK && !samePlain(p, api.Plain{}) {
		t.Fatalf("a plain text with error %d", e)
	}
	return p, e
}

// scan returns what Scan returns, and fails if an argument was changed or the result is not of the right form.
func scan(t *testing.T, g api.Grammar, s api.Source) (api.Scan, api.Errno) {
	t.Helper()
	grammar, src := copyOf(g), copyOf(s)
	x, e := scanner.Scan(grammar, src)
	unchanged(t, grammar, g)
	unchanged(t, src, s)
	separate(t, x, grammar, src)
	if e != api.OK && !sameScan(x, api.Scan{}) {
		t.Fatalf("a scan with error %d", e)
	}
	return x, e
}

// selected returns what Select returns, and fails if the argument was changed or the result is not of the right form.
func selected(t *testing.T, x api.Scan, c api.Config) api.Plain {
	t.Helper()
	given := copyOf(x)
	p := scanner.Select(given, c)
	unchanged(t, given, x)
	separate(t, p, given)
	return p
}

// check returns what Check returns, and fails if an argument was changed.
func check(t *testing.T, g api.Grammar, x api.Scan) api.Errno {
	t.Helper()
	grammar, given := copyOf(g), copyOf(x)
	e := scanner.Check(grammar, given)
	unchanged(t, grammar, g)
	unchanged(t, given, x)
	return e
}

// goodPlain returns the scan of a text that is valid with its grammar and configuration.
func goodPlain(t *testing.T, g api.Grammar, c api.Config, text string) api.Plain {
	t.Helper()
	p, e := scanner.Plain(g, c, text)
	if e != api.OK {
		t.Fatalf("Plain of %.60q: error %d", text, e)
	}
	return p
}

// goodScan returns the scan of a source that is valid with its grammar.
func goodScan(t *testing.T, g api.Grammar, s api.Source) api.Scan {
	t.Helper()
	x, e := scanner.Scan(g, s)
	if e != api.OK {
		t.Fatalf("Scan of %.60q: error %d", s.Text, e)
	}
	if e := scanner.Check(g, x); e != api.OK {
		t.Fatalf("Scan of %.60q is not valid: error %d", s.Text, e)
	}
	return x
}
