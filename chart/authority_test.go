package chart_test

import (
	"cmp"
	"slices"

	"koine/api"
	"koine/diagram"
	"koine/scanner"
)

// The functions of this file follow the sentences of the chapter, for one configuration at a time.

// family returns the configurations of a grammar with few conditions.
func family(g api.Grammar) []api.Config { return configsOf(g.Family, len(g.Conditions)) }

// configsOf returns the configurations of n conditions in a set.
func configsOf(d api.Diagram, n int) []api.Config {
	var list []api.Config
	for c := range api.Config(1) << n {
		if diagram.Holds(d, c) {
			list = append(list, c)
		}
	}
	return list
}

// setOf returns a set of configurations of n conditions.
func setOf(n int, configs []api.Config) api.Diagram {
	d := none()
	for _, c := range configs {
		one := all()
		for v := range n {
			if c>>v&1 == 0 {
				one = and(one, not(is(v)))
			} else {
				one = and(one, is(v))
			}
		}
		d = or(d, one)
	}
	return d
}

// A section is a nonterminal and two offsets.
type section struct{ left, from, to int }

func compareSections(a, b section) int {
	return cmp.Or(cmp.Compare(a.from, b.from), cmp.Compare(a.to, b.to), cmp.Compare(a.left, b.left))
}

// A reading is a scan in one configuration: its words, the gaps, and what has been derived so far.
type reading struct {
	grammar api.Grammar
	config  api.Config
	words   []api.Word
	gaps    []int
	derived map[section]bool
}

// read returns the reading of a scan in a good configuration.
func read(g api.Grammar, x api.Scan, c api.Config) reading {
	r := reading{grammar: g, config: c, words: scanner.Select(x, c).Words, derived: map[section]bool{}}
	for _, w := range r.words {
		r.gaps = append(r.gaps, w.From)
	}
	r.gaps = append(r.gaps, x.End)
	return r
}

// present reports whether a production is present in the grammar of the configuration.
func (r reading) present(p api.Production) bool {
	return diagram.Holds(p.If, r.config) && !slices.ContainsFunc(p.Right, func(s api.Symbol) bool {
		return s.Token && !diagram.Holds(r.grammar.Tokens[s.Index].If, r.config)
	})
}

// fits reports whether symbols can be found one after the other between two gaps, given by their numbers.
func (r reading) fits(symbols []api.Symbol, i, j int) bool {
	if len(symbols) == 0 {
		return i == j
	}
	if s := symbols[0]; s.Token {
		return i < j && slices.Contains(r.words[i].Tokens, s.Index) && r.fits(symbols[1:], i+1, j)
	}
	for k := i; k <= j; k++ {
		if r.derived[section{symbols[0].Index, r.gaps[i], r.gaps[k]}] && r.fits(symbols[1:], k, j) {
			return true
		}
	}
	return false
}

// complete adds what a production derives until nothing is added.
func (r reading) complete() {
	for changed := true; changed; {
		changed = false
		for _, p := range r.grammar.Productions {
			if !r.present(p) {
				continue
			}
			for i := range r.gaps {
				for j := i; j < len(r.gaps); j++ {
					s := section{p.Left, r.gaps[i], r.gaps[j]}
					if !r.derived[s] && r.fits(p.Right, i, j) {
						r.derived[s] = true
						changed = true
					}
				}
			}
		}
	}
}

// chartOf returns the chart of a scan.
func chartOf(g api.Grammar, x api.Scan) []api.Span {
	n := len(g.Conditions)
	configs := map[section][]api.Config{}
	for _, c := range configsOf(x.Good, n) {
		r := read(g, x, c)
		r.complete()
		for s := range r.derived {
			configs[s] = append(configs[s], c)
		}
	}
	var list []api.Span
	for s, l := range configs {
		list = append(list, api.Span{Left: s.left, From: s.from, To: s.to, If: setOf(n, l)})
	}
	slices.SortFunc(list, compareSpans)
	return list
}

func compareSpans(a, b api.Span) int {
	return compareSections(section{a.Left, a.From, a.To}, section{b.Left, b.From, b.To})
}

// acceptedOf returns the configurations in which the start symbol derives all words.
func acceptedOf(g api.Grammar, x api.Scan) api.Diagram {
	n := len(g.Conditions)
	var list []api.Config
	for _, c := range configsOf(x.Good, n) {
		r := read(g, x, c)
		r.complete()
		if r.derived[section{g.Start, r.gaps[0], x.End}] {
			list = append(list, c)
		}
	}
	return setOf(n, list)
}

// startOf returns the beginnings of a scan whose sets depend on n conditions.
func startOf(n int, x api.Scan) []api.Span {
	configs := map[int][]api.Config{}
	for _, c := range configsOf(x.Good, n) {
		first, found := x.End, false
		for _, l := range x.Lexemes {
			if diagram.Holds(l.If, c) && (!found || l.From < first) {
				first, found = l.From, true
			}
		}
		configs[first] = append(configs[first], c)
	}
	var list []api.Span
	for at, l := range configs {
		list = append(list, api.Span{Left: -1, From: at, To: x.End, If: setOf(n, l)})
	}
	slices.SortFunc(list, compareSpans)
	return list
}
