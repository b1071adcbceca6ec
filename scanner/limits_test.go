package scanner_test

import (
	"slices"
	"strconv"
	"strings"
	"testing"

	"koine/api"
	"koine/diagram"
	"koine/scanner"
)

// is returns the configurations with a condition.
func is(v int) api.Diagram { return sure(diagram.Var(v)) }

// sourceOf returns a source of segments: their texts, and where they are present.
func sourceOf(n int, segment func(i int) (string, api.Diagram)) api.Source {
	var s api.Source
	var text strings.Builder
	for i := range n {
		line, where := segment(i)
		from := text.Len()
		text.WriteString(line + "\n")
		s.Segments = append(s.Segments, api.Segment{From: from, To: text.Len(), If: where})
	}
	s.Text = text.String()
	return s
}

// language returns a grammar with n conditions, of names, operators, blanks, and remarks between /* and */.
func language(n int) api.Grammar {
	g := grammarOf(0,
		token(api.Ordinary, "/[a-z][a-z]*/", all()),
		token(api.Ordinary, "*", all()),
		token(api.Ordinary, "///", all()),
		token(api.Layout, `/(\x20|\x0a)(\x20|\x0a)*/`, all()),
		token(api.Remark, `//\x2a([\x00-\x29]|[\x2b-\xff]|\x2a\x2a*([\x00-\x29]|[\x2b-\x2e]|[\x30-\xff]))*\x2a\x2a*//`, all()),
	)
	for i := range n {
		g.Conditions = append(g.Conditions, "C"+strconv.Itoa(i))
	}
	return g
}

// H1, R9: texts of MaxText bytes, in one word, and in very many ones.
func TestLongTexts(t *testing.T) {
	g := language(0)
	for _, text := range []string{
		strings.Repeat("x", api.MaxText), strings.Repeat("\n", api.MaxText), "/*" + strings.Repeat("*\n", api.MaxText/2-2) + "*/",
		strings.Repeat("x /*", api.MaxText/4), strings.Repeat("*", api.MaxText-1) + "!",
	} {
		if got, want := goodPlain(t, g, 0, text), simpleScan(text); !samePlain(got, want) {
			t.Errorf("%.20q..: %d words, %d remarks, stuck at %d, want %d, %d, %d", text, len(got.Words), len(got.Remarks), got.Stuck, len(want.Words), len(want.Remarks), want.Stuck)
		}
		if _, e := scanner.Plain(g, 0, text+"\n"); e != api.ErrLarge {
			t.Errorf("a text of MaxText + 1 bytes: error %d", e)
		}
	}
}

// simpleScan returns the scan of a text in a grammar that language returns.
func simpleScan(text string) api.Plain {
	p := api.Plain{End: len(text), Stuck: -1}
	line, blank := 0, true
	closed := strings.LastIndex(text, "*/") // a remark can be closed before
	for at := 0; at < len(text); {
		from := at
		w := api.Word{From: from, Column: from - line, First: blank}
		list := &p.Words
		switch c := text[at]; {
		case c == ' ' || c == '\n':
			at++
			list = nil
		case c == '*':
			at++
			w.Tokens = []int{1}
		case c == '/' && strings.HasPrefix(text[at:], "/*") && closed >= at+2:
			at += 2 + strings.Index(text[at+2:], "*/") + 2
			w.Tokens = []int{4}
			list = &p.Remarks
		case c == '/':
			at++
			w.Tokens = []int{2}
		case c >= 'a' && c <= 'z':
			for at < len(text) && text[at] >= 'a' && text[at] <= 'z' {
				at++
			}
			w.Tokens = []int{0}
		default:
			p.Stuck = at
			return p
		}
		if w.To = at; list != nil {
			*list = append(*list, w)
		}
		for i := from; i < at; i++ {
			blank = blank && text[i] == ' '
			if text[i] == '\n' {
				line, blank = i+1, true
			}
		}
	}
	return p
}

// H1, H2, R1: matches that begin at each offset and are followed to the end of the text in vain.
func TestVain(t *testing.T) {
	const length = 1 << 17
	text := strings.Repeat("a", length)
	for _, m := range []struct {
		long         string
		words, stuck int // of the text and the letter c
	}{
		{"/aa*b/", length, length},
		{"/aa(aa)*b/", length, length},
		{"/(a|aa)*(b|c)/", 1, -1},
		{"/a*b|a(aaa)*c/", 1 + (length-1)%3, -1},
	} {
		g := grammarOf(1, token(api.Ordinary, "a", all()), token(api.Ordinary, m.long, all()))
		p := goodPlain(t, g, 0, text)
		if len(p.Words) != length || p.Stuck >= 0 || p.Words[length-1].From != length-1 || !slices.Equal(p.Words[9].Tokens, []int{0}) {
			t.Errorf("%s: %d words, stuck at %d", m.long, len(p.Words), p.Stuck)
		}
		p = goodPlain(t, g, 0, text+"c")
		if len(p.Words) != m.words || p.Stuck != m.stuck {
			t.Errorf("%s and c: %d words, stuck at %d", m.long, len(p.Words), p.Stuck)
		}
	}
	g := language(14)
	long := sourceOf(3, func(i int) (string, api.Diagram) { return strings.Repeat("/* ", length/(3+i)), is(i) })
	short := sourceOf(1<<13, func(i int) (string, api.Diagram) { return "a/* /*", is(i % 14) })
	for _, s := range []api.Source{long, short} {
		x := goodScan(t, g, s)
		if words := len(x.Lexemes); len(x.Faults) > 0 || len(x.Remarks) > 0 || words < len(s.Text)*2/5 {
			t.Errorf("%.20q..: %d words, %d faults", s.Text, words, len(x.Faults))
		}
	}
}

// H2, R9: sources of MaxSegments segments.
func TestManySegments(t *testing.T) {
	g := language(14)
	rare := and(is(4), not(is(3)))
	for _, m := range []struct {
		line      string
		condition func(i int) api.Diagram
	}{
		{" x /* y */", func(i int) api.Diagram { return all() }},
		{"ab", func(i int) api.Diagram { return [2]api.Diagram{is(0), not(is(0))}[i%2] }},
		{" x /* y */", func(i int) api.Diagram { return is(i % 14) }},
		{"", func(i int) api.Diagram { return is(i % 14) }},
		{"x", func(i int) api.Diagram { return none() }},
		{"ab", func(i int) api.Diagram { return [2]api.Diagram{is(3), rare}[min(i%1000, 1)] }},
	} {
		s := sourceOf(api.MaxSegments, func(i int) (string, api.Diagram) { return m.line, m.condition(i) })
		one := simpleScan(m.line)
		want := api.Scan{Good: all(), End: len(s.Text)}
		for _, p := range s.Segments {
			if diagram.Same(p.If, none()) {
				continue
			}
			for _, w := range one.Words {
				want.Lexemes = append(want.Lexemes, lexeme(p.From+w.From, p.From+w.To, w.Column, w.First, p.If, w.Tokens...))
			}
			for _, w := range one.Remarks {
				want.Remarks = append(want.Remarks, lexeme(p.From+w.From, p.From+w.To, w.Column, w.First, p.If, w.Tokens...))
			}
		}
		if !sameScan(goodScan(t, g, s), want) {
			t.Errorf("lines %q: another scan", m.line)
		}
	}
}

// H2, R1: lexemes that reach over lines with conditions of their own, with as many conditions as there can be.
func TestManyConditions(t *testing.T) {
	const n = api.MaxConditions
	g := language(n)
	g.Tokens = append(g.Tokens, token(api.Ordinary, "%", all()), token(api.Ordinary, ";", all()))
	optional := func(first, line, last string) api.Source {
		return sourceOf(n+2, func(i int) (string, api.Diagram) {
			switch i {
			case 0:
				return first, all()
			case n + 1:
				return last, all()
			}
			return line, is(i - 1)
		})
	}
	// A remark that is cut, in all configurations or only in those with a condition.
	for last, where := range map[string]api.Diagram{"*/": all(), "a": none()} {
		s := optional("/*", "b", last)
		s.Segments[n+1].If = is(5)
		x := goodScan(t, g, s)
		if !diagram.Same(x.Good, not(and(where, is(5)))) {
			t.Errorf("remarks that end with %q: good is %v", last, x.Good)
		}
	}
	// Layout over all lines.
	x := goodScan(t, g, optional("x", " ", "y"))
	if !sameScan(x, api.Scan{Lexemes: []api.Lexeme{lexeme(0, 1, 0, true, all(), 0), lexeme(2*n+2, 2*n+3, 0, true, all(), 0)}, Good: all(), End: 2*n + 4}) {
		t.Errorf("layout: %v", x)
	}
	// A remark that ends if the line 11 lines before its end is the letter a: what has been read could be any of 2^11 combinations of letters, in 2^31 configurations.
	g.Tokens[4] = token(api.Remark, `/%(a|b|\x0a)*a`+strings.Repeat(`(a|b|\x0a)`, 21)+`;/`, all())
	x = goodScan(t, g, sourceOf(n+2, func(i int) (string, api.Diagram) {
		switch {
		case i == 0:
			return "%", all()
		case i == n+1:
			return ";", all()
		case i%2 == 1:
			return "a", is(i / 2)
		}
		return "b", not(is(i/2 - 1))
	}))
	if len(x.Faults) != 1 || x.Faults[0].At != 0 || !x.Faults[0].Cut || !diagram.Same(x.Faults[0].If, is(n/2-11)) {
		t.Errorf("many states: the faults are %v", x.Faults)
	}
}

// H2, H4, R9: with more than 14 conditions, sets can be too large.
func TestTooLarge(t *testing.T) {
	pairs := func(n int) (api.Grammar, api.Source) {
		return language(n), sourceOf(n/2, func(i int) (string, api.Diagram) { return "!", and(is(i), is(i+n/2)) })
	}
	g, s := pairs(14)
	x := goodScan(t, g, s)
	if len(x.Faults) != 7 || sure(diagram.Count(x.Good, 14))[0] != 2187 {
		t.Errorf("14 conditions: %d faults", len(x.Faults))
	}
	g, s = pairs(30)
	if _, e := scan(t, g, s); e != api.ErrLarge {
		t.Errorf("30 conditions: error %d", e)
	}
	y := api.Scan{Good: all(), End: 30}
	for i, p := range s.Segments {
		f := api.Fault{At: i, If: p.If}
		for j := range min(i, 3) {
			f.If = and(f.If, not(s.Segments[j].If))
		}
		y.Faults = append(y.Faults, f)
	}
	if e := check(t, g, y); e == api.OK {
		t.Error("a scan with too large sets is valid")
	}
}

// randomFunction returns a set that depends on the conditions from v to n-1 in a random way.
func (g generator) randomFunction(v, n int) api.Diagram {
	if v == n {
		return diagram.Constant(g.IntN(2) > 0)
	}
	return sure(diagram.Choose(is(v), g.randomFunction(v+1, n), g.randomFunction(v+1, n)))
}

// H2, R9: with 14 conditions, no set is too large.
func TestLargeSets(t *testing.T) {
	g := seeded(20)
	x := language(14)
	x.Tokens = append(x.Tokens, token(api.Ordinary, "%", g.randomFunction(0, 14)), token(api.Layout, "#", g.randomFunction(0, 14)))
	s := sourceOf(5, func(i int) (string, api.Diagram) {
		return []string{"a%b", "/*", "#c#", "*/%!", "d"}[i], g.randomFunction(0, 14)
	})
	found := goodScan(t, x, s)
	for range 60 {
		c := api.Config(g.IntN(1 << 14))
		p := goodPlain(t, x, c, selectText(s, c))
		f, faulty := faultOf(s, c, p)
		if faulty {
			i := slices.IndexFunc(found.Faults, func(f api.Fault) bool { return diagram.Holds(f.If, c) })
			if i < 0 || found.Faults[i].At != f.At || found.Faults[i].Cut != f.Cut {
				t.Fatalf("configuration %d has fault %d, want %v", c, i, f)
			}
			continue
		}
		p.Words, p.Remarks, p.End = global(s, c, p.Words), global(s, c, p.Remarks), len(s.Text)
		if got := scanner.Select(found, c); !samePlain(got, p) {
			t.Fatalf("configuration %d: %v, want %v", c, got, p)
		}
	}
}

// selectText returns the text of a configuration.
func selectText(s api.Source, c api.Config) string {
	var text strings.Builder
	for _, p := range s.Segments {
		if diagram.Holds(p.If, c) {
			text.WriteString(s.Text[p.From:p.To])
		}
	}
	return text.String()
}

// H1, H2: as many tokens as there can be, which all match, and as many filters.
func TestManyTokens(t *testing.T) {
	g := grammarOf(2)
	for i := range api.MaxTokens / 2 {
		name := token(api.Ordinary, "/[a-z][a-z]*/", all())
		name.Name = "name" + strconv.Itoa(i)
		literal := token(api.Ordinary, "if", set("A"))
		literal.Name = "literal" + strconv.Itoa(i)
		g.Tokens = append(g.Tokens, name, literal)
	}
	for i := range api.MaxFilters {
		g.Filters = append(g.Filters, reserve(set("A && B"), 2*(i%100), 2*(i%7)+1))
	}
	p := goodPlain(t, g, 0, "if")
	if len(p.Words) != 1 || len(p.Words[0].Tokens) != api.MaxTokens/2 {
		t.Errorf("without A: %v", p)
	}
	p = goodPlain(t, g, 3, "if")
	if len(p.Words) != 1 || len(p.Words[0].Tokens) != api.MaxTokens-100 || p.Words[0].Tokens[99] != 199 {
		t.Errorf("with A and B: %v", p)
	}
	x, e := scan(t, g, read(0, "if"))
	if e != api.OK || len(x.Faults) != 1 || x.Faults[0].At != 2 {
		t.Errorf("a source: %v, error %d", x, e)
	}
}

// H1, R1: a pattern with as many alternatives as there can be, all of which match the same bytes.
func TestManyAlternatives(t *testing.T) {
	wide := "((" + strings.Repeat("[a-z]|", 120) + "b)(" + strings.Repeat("[a-z]|", 120) + "b))*"
	g := grammarOf(0)
	for i, end := range []string{"", "a", "b", "c", "[0-9]"} {
		g.Tokens = append(g.Tokens, token(api.Ordinary, "/"+wide+end+"/", all()))
		g.Tokens[i].Name = strconv.Itoa(i)
	}
	n := 1 << 14
	p := goodPlain(t, g, 0, strings.Repeat("ab", n/2)+"7a")
	want := api.Plain{Words: []api.Word{word(0, n+1, 0, true, 4), word(n+1, n+2, n+1, false, 1)}, End: n + 2, Stuck: -1}
	if !samePlain(p, want) {
		t.Errorf("%v, want %v", p, want)
	}
}
