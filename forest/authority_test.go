package forest_test

import (
	"cmp"
	"fmt"
	"slices"

	"koine/api"
	"koine/chart"
	"koine/diagram"
	"koine/scanner"
)

// The functions of this file follow the sentences of the chapter, for one configuration at a time.

// configsOf returns the configurations of n conditions in a set.
func configsOf(d api.Diagram, n int) []api.Config {
	var list []api.Config
	for c := range api.Config(1) << n {
		if diagram.Holds(d, c) {
			list = append(list, c)
		}
	}
	return list
}

// setOf returns a set of configurations of n conditions.
func setOf(n int, configs []api.Config) api.Diagram {
	d := none()
	for _, c := range configs {
		one := all()
		for v := range n {
			if c>>v&1 == 0 {
				one = and(one, not(is(v)))
			} else {
				one = and(one, is(v))
			}
		}
		d = or(d, one)
	}
	return d
}

// A section is a symbol between two gaps, which are given by their numbers.
type section struct {
	symbol   api.Symbol
	from, to int
}

// A reading is a scan in one configuration: its words, the gaps, and what symbols derive.
type reading struct {
	grammar api.Grammar
	config  api.Config
	words   []api.Word
	gaps    []int
	derived map[section]bool
	counts  map[section]int
	made    map[section][]api.Tree
}

// read returns the reading of a scan in a good configuration.
func read(g api.Grammar, x api.Scan, c api.Config) reading {
	r := reading{grammar: g, config: c, words: scanner.Select(x, c).Words, derived: map[section]bool{}, counts: map[section]int{}, made: map[section][]api.Tree{}}
	for i, w := range r.words {
		r.gaps = append(r.gaps, w.From)
		for _, t := range w.Tokens {
			r.derived[section{api.Symbol{Token: true, Index: t}, i, i + 1}] = true
		}
	}
	r.gaps = append(r.gaps, x.End)
	for _, s := range sure(chart.Spans(g, x)) {
		if diagram.Holds(s.If, c) {
			r.derived[section{api.Symbol{Index: s.Left}, slices.Index(r.gaps, s.From), slices.Index(r.gaps, s.To)}] = true
		}
	}
	return r
}

// whole returns the section of the start symbol over all words.
func (r reading) whole() section { return section{api.Symbol{Index: r.grammar.Start}, 0, len(r.words)} }

// ways calls a function for each production of the nonterminal of a section, and each list of sections that its symbols derive one after the other in the place of this section.
func (r reading) ways(s section, visit func(production int, parts []section)) {
	var place func(production int, parts []section, symbols []api.Symbol, at int)
	place = func(production int, parts []section, symbols []api.Symbol, at int) {
		if len(symbols) == 0 {
			if at == s.to {
				visit(production, parts)
			}
			return
		}
		for to := at; to <= s.to; to++ {
			if part := (section{symbols[0], at, to}); r.derived[part] {
				place(production, append(parts[:len(parts):len(parts)], part), symbols[1:], to)
			}
		}
	}
	for i, p := range r.grammar.Productions {
		if p.Left == s.symbol.Index && diagram.Holds(p.If, r.config) {
			place(i, nil, p.Right, s.from)
		}
	}
}

const many = 1 << 20

// count returns the number of trees of a section, or many if there are not less.
func (r reading) count(s section) int {
	if s.symbol.Token || !r.derived[s] {
		if r.derived[s] {
			return 1
		}
		return 0
	}
	if n, ok := r.counts[s]; ok {
		return n
	}
	sum := 0
	r.ways(s, func(_ int, parts []section) {
		product := 1
		for _, p := range parts {
			product = min(product*r.count(p), many)
		}
		sum = min(sum+product, many)
	})
	r.counts[s] = sum
	return sum
}

// trees returns the trees of a section that is derived.
func (r reading) trees(s section) []api.Tree {
	if s.symbol.Token {
		w := r.words[s.from]
		return []api.Tree{word(s.symbol.Index, w.From, w.To)}
	}
	if list, ok := r.made[s]; ok {
		return list
	}
	var list []api.Tree
	r.ways(s, func(production int, parts []section) {
		made := []api.Tree{branch(production, r.gaps[s.from], r.gaps[s.to])}
		for _, p := range parts {
			var longer []api.Tree
			for _, x := range made {
				for _, y := range r.trees(p) {
					longer = append(longer, slices.Concat(x, y))
				}
			}
			made = longer
		}
		list = append(list, made...)
	})
	r.made[s] = list
	return list
}

// treesOf returns the derivation trees of a good configuration in no particular order, and whether there are not more than most.
func treesOf(g api.Grammar, x api.Scan, c api.Config, most int) ([]api.Tree, bool) {
	r := read(g, x, c)
	if !r.derived[r.whole()] {
		return nil, true
	}
	if r.count(r.whole()) > most {
		return nil, false
	}
	return r.trees(r.whole()), true
}

// A mark is a node with one of its alternatives, in which a kid that is no leaf is given by its nonterminal in the place of its node.
type mark struct {
	left, from, to, production int
	kids                       string
}

// marks returns the marks of a tree of a grammar, each with its kids.
func marks(g api.Grammar, x api.Tree) map[mark][]api.Kid {
	found := map[mark][]api.Kid{}
	var visit func() api.Kid
	visit = func() api.Kid {
		n := x[0]
		x = x[1:]
		if n.Production < 0 {
			return leaf(n.Token, n.From, n.To)
		}
		p := g.Productions[n.Production]
		var kids []api.Kid
		for range p.Right {
			kids = append(kids, visit())
		}
		found[mark{p.Left, n.From, n.To, n.Production, fmt.Sprint(kids)}] = kids
		return kid(p.Left, n.From, n.To)
	}
	visit()
	return found
}

// forestOf returns the raw forest of a scan by its definition, and whether no configuration has more than most trees.
func forestOf(g api.Grammar, x api.Scan, most int) (api.Forest, bool) {
	n := len(g.Conditions)
	where := map[mark][]api.Config{}
	kids := map[mark][]api.Kid{}
	begun := map[int][]api.Config{}
	for _, c := range configsOf(x.Good, n) {
		list, ok := treesOf(g, x, c, most)
		if !ok {
			return api.Forest{}, false
		}
		seen := map[mark]bool{}
		for _, t := range list {
			for m, k := range marks(g, t) {
				seen[m], kids[m] = true, k
			}
		}
		for m := range seen {
			where[m] = append(where[m], c)
		}
		if len(list) > 0 {
			begun[list[0][0].From] = append(begun[list[0][0].From], c)
		}
	}
	return packed(g, x, n, where, kids, begun), true
}

// packed returns the forest with the given alternatives, and with the roots that begin at the given offsets.
func packed(g api.Grammar, x api.Scan, n int, where map[mark][]api.Config, kids map[mark][]api.Kid, begun map[int][]api.Config) api.Forest {
	type place struct{ from, to, left int }
	nodes := map[place][]api.Alternative{}
	for m, configs := range where {
		p := place{m.from, m.to, m.left}
		nodes[p] = append(nodes[p], alternative(setOf(n, configs), m.production, slices.Clone(kids[m])...))
	}
	var places []place
	for p := range nodes {
		places = append(places, p)
	}
	slices.SortFunc(places, func(a, b place) int {
		return cmp.Or(cmp.Compare(a.from, b.from), cmp.Compare(a.to, b.to), cmp.Compare(a.left, b.left))
	})
	var f api.Forest
	for i, p := range places {
		list := nodes[p]
		for _, a := range list {
			for j, k := range a.Kids {
				if k.Node >= 0 {
					a.Kids[j].Node = slices.Index(places, place{k.From, k.To, k.Node})
				}
			}
		}
		slices.SortFunc(list, compareAlternatives)
		f.Nodes = append(f.Nodes, node(p.left, p.from, p.to, list...))
		if configs := begun[p.from]; p.left == g.Start && p.to == x.End && len(configs) > 0 {
			f.Roots = append(f.Roots, root(i, setOf(n, configs)))
		}
	}
	return f
}

// compareAlternatives orders the alternatives of a node.
func compareAlternatives(a, b api.Alternative) int {
	if a.Production != b.Production {
		return cmp.Compare(a.Production, b.Production)
	}
	for i := 0; i < len(a.Kids) && i < len(b.Kids); i++ {
		if k, l := a.Kids[i], b.Kids[i]; k != l {
			return cmp.Or(cmp.Compare(k.From, l.From), cmp.Compare(k.To, l.To), cmp.Compare(k.Token, l.Token), cmp.Compare(k.Node, l.Node))
		}
	}
	return cmp.Compare(len(a.Kids), len(b.Kids))
}
