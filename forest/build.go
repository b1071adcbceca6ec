package forest

import (
	"cmp"
	"slices"

	"koine/api"
	"koine/chart"
	"koine/facts"
	"koine/gaps"
	"koine/sets"
	"koine/sound"
)

// A builder builds the raw forest of a scan from the spans of its chart. It goes through them from the first gap to the last one, and those from the same gap from the last one where they end back to the first one. So each node comes behind all those whose kid it is, except for nodes between the same gaps.
type builder struct {
	*sets.Numbers
	*gaps.Gaps
	*rules
	spans        []span
	places       map[place]int // the numbers of the spans
	begins       []int         // by gaps, and behind the last one: the first span from there
	alternatives [][]api.Alternative
	roots        []api.Root
	linked       [][]link // by gaps; nil if they have not been needed
	cells        []int32  // by gaps: the cell of the column that is being made
	tables       [][]*table
	tabled       []int // by nonterminals: the gap from which its tables are
}

// A place is a nonterminal and two gaps.
type place struct{ left, from, to int32 }

// A span is one of the chart, with the configurations in which its node is in a tree, as far as they are known.
type span struct {
	place
	set, reached int32
}

// newBuilder returns the builder for a scan, in which only the roots are reached.
func newBuilder(g api.Grammar, x api.Scan) (*builder, api.Errno) {
	list, e := chart.Spans(g, x)
	if e != api.OK {
		return nil, e
	}
	nullable, e := facts.Nullable(g)
	if e != api.OK {
		return nil, e
	}
	begun, e := chart.Start(x)
	if e != api.OK {
		return nil, e
	}
	n := sets.New()
	b := &builder{Numbers: n, Gaps: gaps.New(n, x), rules: newRules(n, g, nullable)}
	b.read(list)
	b.linked = make([][]link, len(b.Offsets))
	b.cells = slices.Repeat([]int32{none}, len(b.Offsets))
	b.tables = make([][]*table, len(g.Nonterminals))
	b.tabled = slices.Repeat([]int{none}, len(g.Nonterminals))
	for _, s := range begun {
		b.root(s)
	}
	return b, api.OK
}

// read adds the spans of the chart.
func (b *builder) read(list []api.Span) {
	b.spans = make([]span, 0, len(list))
	b.places = make(map[place]int, len(list))
	b.alternatives = make([][]api.Alternative, len(list))
	for i, s := range list {
		p := place{int32(s.Left), b.gap(s.From), b.gap(s.To)}
		for len(b.begins) <= int(p.from) {
			b.begins = append(b.begins, i)
		}
		b.places[p] = i
		b.spans = append(b.spans, span{p, int32(b.Number(s.If)), sets.Nothing})
	}
	for len(b.begins) <= len(b.Offsets) {
		b.begins = append(b.begins, len(list))
	}
}

// gap returns the number of a gap.
func (b *builder) gap(offset int) int32 {
	n, _ := slices.BinarySearch(b.Offsets, offset)
	return int32(n)
}

// root adds the root for the configurations that begin at a gap, if they have trees.
func (b *builder) root(begun api.Span) {
	i, ok := b.places[place{int32(b.grammar.Start), b.gap(begun.From), int32(b.Last())}]
	if !ok {
		return
	}
	set := b.And(b.Number(begun.If), int(b.spans[i].set))
	if set != sets.Nothing {
		b.reach(i, set)
		b.roots = append(b.roots, api.Root{Node: i, If: b.Diagram(set)})
	}
}

// reach adds configurations in which a node is in a tree. It reports whether they are more than before.
func (b *builder) reach(i, set int) bool {
	s := &b.spans[i]
	old := s.reached
	s.reached = int32(b.Or(int(old), set))
	return s.reached != old
}

// grow finds the alternatives of all nodes.
func (b *builder) grow() {
	for gap := range b.Offsets {
		for behind := b.begins[gap+1]; behind > b.begins[gap] && b.E == api.OK; {
			first := behind - 1
			for first > b.begins[gap] && b.spans[first-1].to == b.spans[first].to {
				first--
			}
			b.spread(first, behind)
			for i := first; i < behind; i++ {
				b.expand(i)
			}
			behind = first
		}
	}
}

// spread lets the nodes between two gaps, which are those of some spans, be reached through one another.
func (b *builder) spread(first, behind int) {
	var grown []int // those that are reached in more configurations than what follows from them shows
	for i := first; i < behind && first+1 < behind; i++ {
		if b.spans[i].reached != sets.Nothing {
			grown = append(grown, i)
		}
	}
	for len(grown) > 0 && b.E == api.OK {
		last := len(grown) - 1
		s := b.spans[grown[last]]
		grown = grown[:last]
		lead := func(u unit, i int) {
			if b.reach(i, b.And(b.And(int(s.reached), u.set), int(b.spans[i].set))) {
				grown = append(grown, i)
			}
		}
		units := b.unitsOf(int(s.left))
		if len(units) > behind-first {
			for i := first; i < behind; i++ {
				if k, ok := slices.BinarySearchFunc(units, int(b.spans[i].left), compareUnit); ok {
					lead(units[k], i)
				}
			}
			continue
		}
		for _, u := range units {
			if i, ok := b.places[place{int32(u.left), s.from, s.to}]; ok {
				lead(u, i)
			}
		}
	}
}

func compareUnit(u unit, left int) int { return cmp.Compare(u.left, left) }

// expand finds the alternatives of the node of a span, and where their kids are in trees because of them.
func (b *builder) expand(i int) {
	s := b.spans[i]
	if s.reached == sets.Nothing {
		return
	}
	for _, t := range b.tablesOf(int(s.left), int(s.from)) {
		end, ok := t.end(s.to)
		if !ok {
			continue
		}
		var list []api.Alternative
		for kids, set := range b.kids(t, end, int(s.reached)) {
			list = append(list, api.Alternative{Production: t.production, Kids: slices.Clone(kids), If: b.Diagram(set)})
			for _, k := range kids {
				if k.Node != none {
					b.reach(k.Node, set)
				}
			}
		}
		slices.SortFunc(list, sound.CompareAlternatives)
		b.alternatives[i] = append(b.alternatives[i], list...)
	}
}

// tablesOf returns the tables of the productions of a nonterminal from a gap, in ascending order of the productions.
func (b *builder) tablesOf(left, gap int) []*table {
	if b.tabled[left] != gap {
		b.tabled[left] = gap
		b.tables[left] = nil
		for _, p := range b.candidates(left, gap) {
			if t, ok := b.table(p, gap); ok {
				b.tables[left] = append(b.tables[left], t)
			}
		}
	}
	return b.tables[left]
}

// forest returns the forest, when it has grown.
func (b *builder) forest() api.Forest {
	numbers := make([]int, len(b.spans))
	f := api.Forest{Roots: b.roots}
	for i, s := range b.spans {
		if s.reached != sets.Nothing {
			numbers[i] = len(f.Nodes)
			f.Nodes = append(f.Nodes, api.ForestNode{Left: int(s.left), From: b.Offsets[s.from], To: b.Offsets[s.to], Alternatives: b.alternatives[i]})
		}
	}
	for _, n := range f.Nodes {
		for _, a := range n.Alternatives {
			for k := range a.Kids {
				if kid := &a.Kids[k]; kid.Node != none {
					kid.Node = numbers[kid.Node]
				}
			}
		}
	}
	for i := range f.Roots {
		f.Roots[i].Node = numbers[f.Roots[i].Node]
	}
	return f
}
