package scanner_test

import (
	"cmp"
	"slices"
	"strings"
	"testing"

	"koine/api"
	"koine/diagram"
	"koine/grammar"
	"koine/pattern"
	"koine/scanner"
	"koine/source"
)

// P8.2: Select of the scan of a source is the scan of the configuration's text, or the configuration has the fault of its text.
func TestSelection(t *testing.T) {
	g := seeded(10)
	for range 3000 {
		n := g.IntN(4)
		x, s := g.grammar(n), g.source(n, 8, 8)
		found := goodScan(t, x, s)
		for _, c := range family(x) {
			p := goodPlain(t, x, c, source.Select(s, c))
			want, faulty := faultOf(s, c, p)
			var faults []api.Fault
			for _, f := range found.Faults {
				if diagram.Holds(f.If, c) {
					faults = append(faults, f)
				}
			}
			if faulty {
				if diagram.Holds(found.Good, c) || len(faults) != 1 || faults[0].At != want.At || faults[0].Cut != want.Cut {
					t.Fatalf("%q, configuration %d: faults %v, want %v", s.Text, c, faults, want)
				}
				continue
			}
			p.Words, p.Remarks, p.End = global(s, c, p.Words), global(s, c, p.Remarks), len(s.Text)
			if got := scanner.Select(found, c); len(faults) > 0 || !samePlain(got, p) {
				t.Fatalf("%q, configuration %d: %v with faults %v, want %v", s.Text, c, got, faults, p)
			}
		}
	}
}

// P8.3: longest matches, and what is between words and remarks.
func TestLongest(t *testing.T) {
	g := seeded(11)
	for range 3000 {
		n := g.IntN(3)
		x, text := g.grammar(n), g.text(30)
		for _, c := range family(x) {
			p := goodPlain(t, x, c, text)
			end := len(text)
			if p.Stuck >= 0 {
				end = p.Stuck
			}
			lexemes := append(slices.Concat(p.Words, p.Remarks), api.Word{From: end, To: end})
			slices.SortFunc(lexemes, func(a, b api.Word) int { return cmp.Compare(a.From, b.From) })
			at := 0
			for _, w := range lexemes {
				expectLayout(t, x, c, text[:w.From], at)
				expectLongest(t, x, c, text, w)
				at = w.To
			}
		}
	}
}

// expectLongest fails unless no token matches more than a lexeme, and its tokens match it as a whole.
func expectLongest(t *testing.T, g api.Grammar, c api.Config, text string, w api.Word) {
	t.Helper()
	for i, k := range g.Tokens {
		if !diagram.Holds(k.If, c) {
			if slices.Contains(w.Tokens, i) {
				t.Fatalf("%q, configuration %d: the token %d of %v is not present", text, c, i, w)
			}
			continue
		}
		whole := text[w.From:w.To] == k.Literal || k.Literal == "" && pattern.Matches(k.Pattern, text[w.From:w.To])
		if matched(k, text, w.From) > w.To-w.From || slices.Contains(w.Tokens, i) && !whole {
			t.Fatalf("%q, configuration %d: the token %d of %v", text, c, i, w)
		}
	}
}

// expectLayout fails unless the bytes of a text from an offset on are matched by layout tokens, one after the other.
func expectLayout(t *testing.T, g api.Grammar, c api.Config, text string, at int) {
	t.Helper()
	matches := map[int]bool{at: true}
	for ; at < len(text); at++ {
		for to := at + 1; matches[at] && to <= len(text); to++ {
			for _, k := range g.Tokens {
				if k.Class == api.Layout && diagram.Holds(k.If, c) && (k.Literal == text[at:to] || k.Literal == "" && pattern.Matches(k.Pattern, text[at:to])) {
					matches[to] = true
				}
			}
		}
	}
	if !matches[len(text)] {
		t.Fatalf("%q, configuration %d: the bytes before the end are not layout", text, c)
	}
}

// P8.4: the scan in a configuration is that with the grammar of this configuration.
func TestOneConfiguration(t *testing.T) {
	g := seeded(12)
	for range 3000 {
		x, text := g.grammar(g.IntN(4)), g.text(30)
		for _, c := range family(x) {
			one := sure(grammar.At(x, c))
			if got, want := goodPlain(t, one, 0, text), goodPlain(t, x, c, text); !samePlain(got, want) {
				t.Fatalf("%q, configuration %d: %v, want %v", text, c, got, want)
			}
			text = strings.TrimSuffix(text, "\n") + "\n"
			s := api.Source{Text: text, Segments: []api.Segment{{To: len(text), If: all()}}}
			if got, want := scanner.Select(goodScan(t, one, s), 0), goodPlain(t, x, c, text); want.Stuck < 0 && !samePlain(got, want) {
				t.Fatalf("%q as a source, configuration %d: %v, want %v", text, c, got, want)
			}
		}
	}
}

// P8.5: without a filter that reserves words, words are where they were, and can be more tokens.
func TestReservation(t *testing.T) {
	g := seeded(13)
	more := 0
	for range 8000 {
		x, text := g.grammar(g.IntN(3)), g.text(30)
		i := slices.IndexFunc(x.Filters, func(f api.Filter) bool { return f.Kind == api.FilterReserve })
		if i < 0 {
			continue
		}
		y := x
		y.Filters = slices.Delete(slices.Clone(x.Filters), i, i+1)
		for _, c := range family(x) {
			before, after := goodPlain(t, x, c, text), goodPlain(t, y, c, text)
			for j, w := range after.Words {
				if j >= len(before.Words) {
					break
				}
				v := before.Words[j]
				if len(v.Tokens) < len(w.Tokens) {
					more++
				}
				if !slices.ContainsFunc(v.Tokens, func(k int) bool { return !slices.Contains(w.Tokens, k) }) {
					after.Words[j].Tokens = v.Tokens
				}
			}
			if !samePlain(before, after) {
				t.Fatalf("%q, configuration %d: %v, want %v", text, c, after, before)
			}
		}
	}
	if more < 100 {
		t.Fatalf("only %d words can be more tokens", more)
	}
}

// P8.6: a lexeme with a configuration that is not good, or an empty set.
func TestValidity(t *testing.T) {
	g := seeded(14)
	for range 2000 {
		n := 1 + g.IntN(3)
		x := g.grammar(n)
		found := goodScan(t, x, g.source(n, 6, 6))
		if !isValid(x, found) {
			t.Fatalf("%v is not valid for %v", found, x)
		}
		for _, list := range [][]api.Lexeme{found.Lexemes, found.Remarks} {
			for i, l := range list {
				list[i].Choices = nil
				list[i].If = none()
				if e := scanner.Check(x, found); e != api.ErrArg {
					t.Fatalf("an empty set: error %d", e)
				}
				list[i] = l
				for c := range api.Config(1) << n {
					list[i].If = or(l.If, setOf(n, []api.Config{c}))
					if e := scanner.Check(x, found); !diagram.Holds(found.Good, c) && e != api.ErrArg {
						t.Fatalf("a configuration that is not good: error %d", e)
					}
				}
				list[i] = l
			}
		}
	}
}

// P8.7: columns, and the first words of lines.
func TestLines(t *testing.T) {
	g := seeded(15)
	for range 3000 {
		n := g.IntN(3)
		x, s := g.grammar(n), g.source(n, 6, 12)
		found := goodScan(t, x, s)
		for _, l := range slices.Concat(found.Lexemes, found.Remarks) {
			column, first := 0, true
			for i := 0; i < l.From; i++ {
				column++
				first = first && (s.Text[i] == ' ' || s.Text[i] == '\t')
				if s.Text[i] == '\n' {
					column, first = 0, true
				}
			}
			if l.Column != column || l.First != first {
				t.Fatalf("%q: the lexeme at %d has column %d and First %v, want %d and %v", s.Text, l.From, l.Column, l.First, column, first)
			}
		}
	}
}

// P8.7: bytes before a word that are not spaces and tabs, and lines that begin inside a lexeme.
func TestFirst(t *testing.T) {
	g := grammarOf(0,
		token(api.Ordinary, "/[a-z]/", all()),
		token(api.Layout, `/[\x09-\x0d]|\x20/`, all()),
		token(api.Remark, `/%([\x00-:]|[<-\xff])*;/`, all()),
		token(api.Ordinary, "\n\n", all()),
	)
	expectPlain(t, g, 0, " \ta\n\v b\n\t%\n  ;c\n\n d\r\n%;", api.Plain{
		Words: []api.Word{
			word(2, 3, 2, true, 0), word(6, 7, 2, false, 0), word(14, 15, 3, false, 0), word(15, 17, 4, false, 3), word(18, 19, 1, true, 0),
		},
		Remarks: []api.Word{word(9, 14, 1, true, 2), word(21, 23, 0, true, 2)},
		Stuck:   -1,
	})
}
