package scanner_test

import (
	"math/rand/v2"
	"slices"
	"strconv"

	"koine/api"
	"koine/diagram"
	"koine/pattern"
)

// A generator makes random arguments.
type generator struct{ *rand.Rand }

func seeded(k uint64) generator { return generator{rand.New(rand.NewPCG(8, k))} }

// pick returns one of several values.
func pick[T any](g generator, list ...T) T { return list[g.IntN(len(list))] }

// set returns a set of configurations of n conditions.
func (g generator) set(n int) api.Diagram {
	d := diagram.Constant(g.IntN(4) > 0)
	if n == 0 {
		return d
	}
	for range g.IntN(4) {
		x := sure(diagram.Var(g.IntN(n)))
		switch g.IntN(4) {
		case 0:
			d = and(d, x)
		case 1:
			d = or(d, x)
		case 2:
			d = sure(diagram.Xor(d, x))
		case 3:
			d = and(d, not(x))
		}
	}
	return d
}

// pattern returns a pattern of about n nodes.
func (g generator) pattern(n int) string {
	if n <= 1 {
		return pick(g, "a", "a", "b", "b", "[a-c]", "[b-c]", "c", "=", `\x20`, `\x0a`, "()", "%", ";", `[\x00-\xff]`)
	}
	k := 1 + g.IntN(n)
	switch g.IntN(5) {
	case 0:
		return "(" + g.pattern(n-1) + ")*"
	case 1:
		return "(" + g.pattern(k) + "|" + g.pattern(n-k) + ")"
	default:
		return g.pattern(k) + g.pattern(n-k)
	}
}

// token returns a token with a name of its own.
func (g generator) token(n, number int) api.Token {
	where := all()
	if g.IntN(2) == 0 {
		where = g.set(n)
	}
	class := pick(g, api.Ordinary, api.Ordinary, api.Layout, api.Remark)
	text := pick(g, "a", "b", "ab", "aa", "=", "==", "a=", "=\n", "a\na", "\n", " ", ";", "c\n\n", "bb",
		"/[a-c][a-c]*/", "/[a-b][a-c]*/", "/a(a)*b/", "/(ab|a)*c/", "/((a)*(b)*)*/", `/%([\x00-:]|[<-\xff])*;/`, `/=(a|b|\x0a)*=/`, `/[!-~]/`, `/c[\x00-\xff]*c/`)
	switch g.IntN(8) {
	case 0:
		text = "/" + g.pattern(1+g.IntN(9)) + "/"
	case 1:
		class, text = api.Layout, pick(g, `/(\x20|\x0a)*/`, `/\x20\x20*/`, `/\x0a(\x0a)*/`, `/\x20|\x0a|=/`)
	case 2:
		class, text = api.Remark, pick(g, `/%[!-~]*\x0a/`, `/%([\x00-:]|[<-\xff])*;/`, `/%(;|%|a|b|\x20|\x0a)*;/`)
	case 3, 4:
		class, text = api.Ordinary, pick(g, "/[a-c][a-c]*/", "a", "ab", "b", "aa")
	}
	if class == api.Ordinary && text[0] == '/' && !nonempty(text[1:len(text)-1]) {
		class = api.Layout
	}
	t := token(class, text, where)
	t.Name = strconv.Itoa(number)
	return t
}

// nonempty reports whether a pattern matches a string other than the empty one.
func nonempty(text string) bool {
	_, e := pattern.Shortest(sure(pattern.Parse(text)))
	return e == api.OK
}

// grammar returns a grammar with n conditions, for which most texts are not stuck.
func (g generator) grammar(n int) api.Grammar {
	x := grammarOf(n)
	if g.IntN(2) > 0 {
		x.Family = g.set(n)
	}
	if diagram.Same(x.Family, none()) {
		x.Family = all()
	}
	for i := range g.IntN(12) {
		x.Tokens = append(x.Tokens, g.token(n, i))
	}
	where := all()
	if g.IntN(4) == 0 {
		where = g.set(n)
	}
	if g.IntN(8) > 0 {
		x.Tokens = append(x.Tokens, token(api.Layout, `/\x09|\x0a|\x20/`, all()), token(api.Ordinary, `/[!-\xff]/`, where))
	}
	x.Filters = g.filters(n, x.Tokens)
	return x
}

// filters returns filters that reserve words, and others.
func (g generator) filters(n int, tokens []api.Token) []api.Filter {
	var names, literals []int
	for i, t := range tokens {
		switch {
		case t.Literal != "":
			literals = append(literals, i)
		case t.Class == api.Ordinary:
			names = append(names, i)
		}
	}
	var list []api.Filter
	for range g.IntN(5) {
		if len(names) == 0 || len(literals) == 0 {
			break
		}
		var some []int
		for range 1 + g.IntN(3) {
			some = append(some, pick(g, literals...))
		}
		slices.Sort(some)
		list = append(list, reserve(g.set(n), pick(g, names...), slices.Compact(some)...))
		if g.IntN(4) == 0 {
			list = append(list, api.Filter{Kind: api.FilterFollow, Tokens: names[:1], If: all()})
		}
	}
	return list
}

// text returns a text of about n bytes.
func (g generator) text(n int) string {
	var text []byte
	for range g.IntN(n + 1) {
		text = append(text, pick(g, "a", "a", "a", "b", "b", "c", "=", " ", " ", "\n", "\n", "%", ";", "ab", "==", "\t", "\xff")...)
	}
	return string(text)
}

// source returns a source with some segments.
func (g generator) source(n, segments, length int) api.Source {
	var s api.Source
	for range g.IntN(segments + 1) {
		from := len(s.Text)
		s.Text += g.text(length) + "\n"
		s.Segments = append(s.Segments, api.Segment{From: from, To: len(s.Text), File: g.IntN(3), At: g.IntN(9), If: g.set(n)})
	}
	return s
}
