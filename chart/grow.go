package chart

import (
	"cmp"
	"maps"
	"slices"

	"koine/api"
	"koine/facts"
	"koine/gaps"
	"koine/scanner"
	"koine/sets"
)

// A chart has the spans of a valid scan. They are found from the last gap to the first one: where those from a gap are looked for, those from all later gaps are known. Those from a gap are found from one gap where they can end to the next one.
type chart struct {
	*sets.Numbers
	*gaps.Gaps
	*rules
	spans   map[place]int32
	links   [][]link // by gaps: those from it, ordered by symbols
	fresh   []link   // those from the gap from which spans are looked for
	board   *board   // the states that are reached from there
	current []int    // by states: the configurations in which they are reached at the gap where spans can end
	reached []int    // the states that are reached there
	grown   []int    // those of them that are reached in more configurations than what follows from them shows
}

// A place is a nonterminal and two gaps.
type place struct{ left, from, to int32 }

// A link is a symbol that leads from a gap to a later one in the configurations of a set.
type link struct{ symbol, to, set int32 }

// newChart returns the chart of a scan.
func newChart(g api.Grammar, x api.Scan) (*chart, api.Errno) {
	if e := scanner.Check(g, x); e != api.OK {
		return nil, e
	}
	nullable, e := facts.Nullable(g)
	if e != api.OK {
		return nil, e
	}
	n := sets.New()
	c := &chart{Numbers: n, Gaps: gaps.New(n, x), rules: newRules(n, g, nullable), spans: map[place]int32{}}
	c.links = make([][]link, len(c.Offsets))
	c.board = newBoard(len(c.states), len(c.Offsets))
	c.current = make([]int, len(c.states))
	for from := c.Last(); from >= 0 && c.fits(); from-- {
		c.look(from)
	}
	if !c.fits() {
		return nil, api.ErrLarge
	}
	return c, api.OK
}

// fits reports whether there are not too many spans, and no set has too many branches.
func (c *chart) fits() bool { return c.E == api.OK && len(c.spans) <= api.MaxForest }

// look finds the spans from a gap.
func (c *chart) look(from int) {
	c.empty(from)
	c.read(from)
	for to, more := c.board.agenda.take(); more && c.fits(); to, more = c.board.agenda.take() {
		c.board.take(to, c.raise)
		c.settle()
		c.leave(from, to)
	}
	slices.SortFunc(c.fresh, func(a, b link) int {
		return cmp.Or(cmp.Compare(a.symbol, b.symbol), cmp.Compare(a.to, b.to))
	})
	c.links[from] = slices.Clone(c.fresh)
	c.fresh = c.fresh[:0]
	c.board.clear()
}

// empty adds the spans from a gap to itself.
func (c *chart) empty(gap int) {
	for _, left := range c.erasable {
		if set := c.And(c.nullable[left], c.Having(gap)); set != sets.Nothing {
			c.add(left, gap, gap, set)
		}
	}
}

// add adds a span.
func (c *chart) add(left, from, to, set int) {
	c.spans[place{int32(left - c.tokens), int32(from), int32(to)}] = int32(set)
}

// read follows the words at a gap.
func (c *chart) read(from int) {
	for _, x := range c.Words[from] {
		choices := c.choices(x)
		if len(choices) == 0 {
			continue
		}
		for to, having := range c.Behind(from, c.Number(x.If)) {
			for _, t := range choices {
				if set := c.And(having, t.set); set != sets.Nothing {
					c.fresh = append(c.fresh, link{int32(t.token), int32(to), int32(set)})
				}
			}
		}
	}
	slices.SortStableFunc(c.fresh, func(a, b link) int { return cmp.Compare(a.symbol, b.symbol) })
	for rest := c.fresh; len(rest) > 0; {
		same := with(rest, int(rest[0].symbol))
		for _, s := range c.starts[rest[0].symbol] {
			c.follow(s.state, s.set, same)
		}
		rest = rest[len(same):]
	}
}

// A choice is a token, in the configurations of a set.
type choice struct{ token, set int }

// choices returns the tokens that a word can be, as far as a production has them.
func (c *chart) choices(x api.Lexeme) []choice {
	var list []choice
	for _, t := range x.Choices {
		if c.used[t.Token] {
			list = append(list, choice{t.Token, c.Number(t.If)})
		}
	}
	return list
}

// with returns the links with a symbol.
func with(links []link, symbol int) []link {
	compare := func(l link, symbol int) int { return cmp.Compare(int(l.symbol), symbol) }
	first, _ := slices.BinarySearchFunc(links, symbol, compare)
	behind, _ := slices.BinarySearchFunc(links[first:], symbol+1, compare)
	return links[first : first+behind]
}

// follow lets a state be reached where links lead, in the configurations of a set.
func (c *chart) follow(state, set int, links []link) {
	var p *page
	number := -1
	for _, l := range links {
		to := uint32(l.to)
		if n := int(to / pageSize); n != number {
			p, number = c.board.page(state, n), n
		}
		cell := &p[to%pageSize]
		old := int(*cell)
		if old == set || old == int(l.set) {
			continue
		}
		more := c.And(set, int(l.set))
		if more == sets.Nothing {
			continue
		}
		if old == sets.Nothing {
			c.board.note(state, int(l.to))
		}
		*cell = int32(c.Or(old, more))
	}
}

// settle adds what follows from the states that are reached at a gap: where a nonterminal has been found, productions can begin with it, and a symbol that is nullable leads from the gap to itself.
func (c *chart) settle() {
	grow := func() bool {
		last := len(c.grown) - 1
		if last < 0 || c.E != api.OK {
			return false
		}
		n := c.grown[last]
		c.grown = c.grown[:last]
		s, set := c.states[n], c.current[n]
		if s.symbol != complete {
			c.raise(s.next, c.And(set, c.nullable[s.symbol]))
			return true
		}
		for _, t := range c.starts[s.left] {
			c.raise(t.state, c.And(set, t.set))
		}
		return true
	}
	for grow() {
	}
}

// raise lets a state be reached in more configurations.
func (c *chart) raise(state, more int) {
	old := c.current[state]
	set := c.Or(old, more)
	if set == old {
		return
	}
	if old == sets.Nothing {
		c.reached = append(c.reached, state)
	}
	c.current[state] = set
	c.grown = append(c.grown, state)
}

// leave goes on from the gap where spans can end: it adds those that do, and follows the links from there.
func (c *chart) leave(from, to int) {
	for _, n := range c.reached {
		s, set := c.states[n], c.current[n]
		c.current[n] = sets.Nothing
		if s.symbol != complete {
			c.follow(s.next, set, with(c.links[to], s.symbol))
			continue
		}
		c.add(s.left, from, to, set)
		c.fresh = append(c.fresh, link{int32(s.left), int32(to), int32(set)})
	}
	c.reached = c.reached[:0]
}

// list returns the spans in their order.
func (c *chart) list() []api.Span {
	places := slices.SortedFunc(maps.Keys(c.spans), func(a, b place) int {
		return cmp.Or(cmp.Compare(a.from, b.from), cmp.Compare(a.to, b.to), cmp.Compare(a.left, b.left))
	})
	list := make([]api.Span, 0, len(places))
	for _, p := range places {
		list = append(list, api.Span{Left: int(p.left), From: c.Offsets[p.from], To: c.Offsets[p.to], If: c.Diagram(int(c.spans[p]))})
	}
	return list
}
