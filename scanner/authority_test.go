package scanner_test

import (
	"cmp"
	"slices"
	"strings"

	"koine/api"
	"koine/diagram"
	"koine/pattern"
	"koine/source"
)

// The functions of this file follow the sentences of the chapter, for one configuration at a time.

// family returns the configurations of a grammar with few conditions.
func family(g api.Grammar) []api.Config {
	var list []api.Config
	for c := range api.Config(1) << len(g.Conditions) {
		if diagram.Holds(g.Family, c) {
			list = append(list, c)
		}
	}
	return list
}

// setOf returns a set of configurations of n conditions.
func setOf(n int, configs []api.Config) api.Diagram {
	d := none()
	for _, c := range configs {
		one := all()
		for v := range n {
			x := sure(diagram.Var(v))
			if c>>v&1 == 0 {
				x = not(x)
			}
			one = and(one, x)
		}
		d = or(d, one)
	}
	return d
}

// matched returns how many bytes a token matches at an offset.
func matched(t api.Token, text string, at int) int {
	if t.Literal == "" {
		n, _ := pattern.Longest(t.Pattern, text, at)
		return n
	}
	if strings.HasPrefix(text[at:], t.Literal) {
		return len(t.Literal)
	}
	return 0
}

// candidates returns the tokens that match most bytes at an offset, and how many these are.
func candidates(g api.Grammar, c api.Config, text string, at int) ([]int, int) {
	most := 0
	var list []int
	for i, t := range g.Tokens {
		if !diagram.Holds(t.If, c) {
			continue
		}
		n := matched(t, text, at)
		if n > most {
			most, list = n, nil
		}
		if n > 0 && n == most {
			list = append(list, i)
		}
	}
	return list, most
}

// isReserved reports whether a token is reserved for a lexeme.
func isReserved(g api.Grammar, c api.Config, token int, lexeme string) bool {
	for _, f := range g.Filters {
		if f.Kind != api.FilterReserve || f.Token != token || !diagram.Holds(f.If, c) {
			continue
		}
		for _, t := range f.Tokens {
			if g.Tokens[t].Literal == lexeme {
				return true
			}
		}
	}
	return false
}

// firstOnLine returns the column of a byte, and whether all bytes of its line before it are blanks.
func firstOnLine(text string, at int) (int, bool) {
	before := text[:at]
	line := before[strings.LastIndexByte(before, '\n')+1:]
	return len(line), strings.Trim(line, " \t") == ""
}

// plainScan returns the scan of a text in a configuration.
func plainScan(g api.Grammar, c api.Config, text string) api.Plain {
	p := api.Plain{End: len(text), Stuck: -1}
	for at := 0; at < len(text); {
		list, n := candidates(g, c, text, at)
		if n == 0 {
			p.Stuck = at
			break
		}
		w := api.Word{From: at, To: at + n}
		w.Column, w.First = firstOnLine(text, at)
		switch g.Tokens[list[0]].Class {
		case api.Remark:
			w.Tokens = list[:1]
			p.Remarks = append(p.Remarks, w)
		case api.Ordinary:
			for _, token := range list {
				if g.Tokens[token].Class == api.Ordinary && !isReserved(g, c, token, text[at:at+n]) {
					w.Tokens = append(w.Tokens, token)
				}
			}
			p.Words = append(p.Words, w)
		}
		at += n
	}
	return p
}

// global returns the words of a configuration's text with the offsets of a source.
func global(s api.Source, c api.Config, words []api.Word) []api.Word {
	words = slices.Clone(words)
	for i, w := range words {
		words[i].From, _ = source.Global(s, c, w.From)
		last, _ := source.Global(s, c, w.To-1)
		words[i].To = last + 1
	}
	return words
}

// faultOf returns the fault of a configuration, given the scan of its text, and whether there is one.
func faultOf(s api.Source, c api.Config, p api.Plain) (api.Fault, bool) {
	words := global(s, c, slices.Concat(p.Words, p.Remarks))
	slices.SortFunc(words, func(a, b api.Word) int { return cmp.Compare(a.From, b.From) })
	for _, w := range words {
		if segmentOf(s, w.From) != segmentOf(s, w.To-1) {
			return api.Fault{At: w.From, Cut: true}, true
		}
	}
	if p.Stuck >= 0 {
		at, _ := source.Global(s, c, p.Stuck)
		return api.Fault{At: at}, true
	}
	return api.Fault{}, false
}

// segmentOf returns the number of the segment of a byte.
func segmentOf(s api.Source, at int) int {
	return slices.IndexFunc(s.Segments, func(g api.Segment) bool { return at < g.To })
}

// A collection gathers the configurations of the parts of a scan.
type collection struct {
	conditions int
	good       []api.Config
	faults     map[api.Config]api.Fault
	words      map[api.Config][]api.Word
	remarks    map[api.Config][]api.Word
}

// scanOf returns the scan of a source.
func scanOf(g api.Grammar, s api.Source) api.Scan {
	k := collection{len(g.Conditions), nil, map[api.Config]api.Fault{}, map[api.Config][]api.Word{}, map[api.Config][]api.Word{}}
	for _, c := range family(g) {
		p := plainScan(g, c, source.Select(s, c))
		f, faulty := faultOf(s, c, p)
		if faulty {
			k.faults[c] = f
			continue
		}
		k.good = append(k.good, c)
		k.words[c] = global(s, c, p.Words)
		k.remarks[c] = global(s, c, p.Remarks)
	}
	return api.Scan{Lexemes: k.lexemes(k.words), Remarks: k.lexemes(k.remarks), Faults: k.allFaults(), Good: setOf(k.conditions, k.good), End: len(s.Text)}
}

func (k collection) allFaults() []api.Fault {
	type place struct {
		at  int
		cut bool
	}
	configs := map[place][]api.Config{}
	for c, f := range k.faults {
		p := place{f.At, f.Cut}
		configs[p] = append(configs[p], c)
	}
	var list []api.Fault
	for p, l := range configs {
		list = append(list, api.Fault{At: p.at, Cut: p.cut, If: setOf(k.conditions, l)})
	}
	slices.SortFunc(list, func(a, b api.Fault) int {
		if a.At == b.At && a.Cut != b.Cut {
			if b.Cut {
				return -1
			}
			return 1
		}
		return cmp.Compare(a.At, b.At)
	})
	return list
}

func (k collection) lexemes(words map[api.Config][]api.Word) []api.Lexeme {
	type place struct{ from, to int }
	configs := map[place][]api.Config{}
	tokens := map[place]map[int][]api.Config{}
	like := map[place]api.Word{}
	for c, list := range words {
		for _, w := range list {
			p := place{w.From, w.To}
			configs[p] = append(configs[p], c)
			like[p] = w
			if tokens[p] == nil {
				tokens[p] = map[int][]api.Config{}
			}
			for _, t := range w.Tokens {
				tokens[p][t] = append(tokens[p][t], c)
			}
		}
	}
	var list []api.Lexeme
	for p, l := range configs {
		x := api.Lexeme{From: p.from, To: p.to, Column: like[p].Column, First: like[p].First, If: setOf(k.conditions, l)}
		for t, l := range tokens[p] {
			x.Choices = append(x.Choices, api.Choice{Token: t, If: setOf(k.conditions, l)})
		}
		slices.SortFunc(x.Choices, func(a, b api.Choice) int { return cmp.Compare(a.Token, b.Token) })
		list = append(list, x)
	}
	slices.SortFunc(list, func(a, b api.Lexeme) int { return cmp.Or(cmp.Compare(a.From, b.From), cmp.Compare(a.To, b.To)) })
	return list
}

// isValid reports whether a scan is valid for a grammar.
func isValid(g api.Grammar, x api.Scan) bool {
	return x.End >= 0 && x.End <= api.MaxText && validFaults(g, x) &&
		validLexemes(g, x, x.Lexemes, api.Ordinary) && validLexemes(g, x, x.Remarks, api.Remark) &&
		noneOverlap(slices.Concat(x.Lexemes, x.Remarks))
}

// usable reports whether a set fits a grammar and is not empty.
func usable(g api.Grammar, d api.Diagram) bool {
	if diagram.Check(d) != api.OK || diagram.Same(d, none()) {
		return false
	}
	for _, v := range diagram.Support(d) {
		if v >= len(g.Conditions) {
			return false
		}
	}
	return true
}

func validFaults(g api.Grammar, x api.Scan) bool {
	rest := g.Family
	for i, f := range x.Faults {
		if f.At < 0 || f.At >= x.End || !usable(g, f.If) || !diagram.Within(f.If, g.Family) {
			return false
		}
		for _, h := range x.Faults[:i] {
			if f.At < h.At || f.At == h.At && (!f.Cut || h.Cut) || !diagram.Disjoint(f.If, h.If) {
				return false
			}
		}
		rest = and(rest, not(f.If))
	}
	return diagram.Same(rest, x.Good)
}

func validLexemes(g api.Grammar, x api.Scan, list []api.Lexeme, class int) bool {
	for i, l := range list {
		if i > 0 && (l.From < list[i-1].From || l.From == list[i-1].From && l.To <= list[i-1].To) {
			return false
		}
		if l.From < 0 || l.From >= l.To || l.To > x.End || l.Column < 0 || l.Column > l.From {
			return false
		}
		if !usable(g, l.If) || !diagram.Within(l.If, x.Good) || !validChoices(g, l, class) {
			return false
		}
	}
	return true
}

func validChoices(g api.Grammar, l api.Lexeme, class int) bool {
	total := none()
	for i, c := range l.Choices {
		if c.Token < 0 || c.Token >= len(g.Tokens) || g.Tokens[c.Token].Class != class {
			return false
		}
		if !usable(g, c.If) || !diagram.Within(c.If, l.If) || !diagram.Within(c.If, g.Tokens[c.Token].If) {
			return false
		}
		for _, d := range l.Choices[:i] {
			if c.Token <= d.Token || class == api.Remark && !diagram.Disjoint(c.If, d.If) {
				return false
			}
		}
		total = or(total, c.If)
	}
	return class != api.Remark || diagram.Same(total, l.If)
}

func noneOverlap(list []api.Lexeme) bool {
	for i, a := range list {
		for _, b := range list[:i] {
			if a.From < b.To && b.From < a.To && !diagram.Disjoint(a.If, b.If) {
				return false
			}
		}
	}
	return true
}
