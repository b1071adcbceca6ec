package facts

import (
	"koine/api"
	"koine/diagram"
)

// cyclic returns, for each nonterminal, where it derives itself. It takes one nonterminal after the other and finds all cycles through it, until no links are left.
func (a *analysis) cyclic() []api.Diagram {
	sets := make([]api.Diagram, len(a.Nonterminals))
	links := a.endless(a.units())
	for len(links) > 0 && a.e == api.OK {
		pivot := links[0].from
		ring := a.ring(pivot, links)
		for i, set := range ring {
			sets[i] = a.or(sets[i], set)
		}
		// Where a nonterminal is on a cycle with the pivot, so is each nonterminal with which it is on a cycle.
		ring[pivot] = diagram.Constant(true)
		links = a.endless(a.outside(links, ring))
	}
	return sets
}

// units returns the links from each nonterminal to those to which a step can lead, if the rest of the right side derives the empty sequence.
func (a *analysis) units() []link {
	sets := a.erasing()
	nullable := a.derived(sets)
	var links []link
	for i, p := range a.Productions {
		if !some(sets[i]) {
			continue
		}
	symbols:
		for at, s := range p.Right {
			set := sets[i]
			for other, t := range p.Right {
				if other != at {
					set = a.and(set, nullable[t.Index])
				}
				if !some(set) {
					continue symbols
				}
			}
			links = append(links, link{p.Left, s.Index, set})
		}
	}
	return links
}

// ring returns, for each nonterminal, where it is on a cycle with the pivot.
func (a *analysis) ring(pivot int, links []link) []api.Diagram {
	after := make([]api.Diagram, len(a.Nonterminals))
	out := outgoing(len(after), links)
	for _, l := range out[pivot] {
		after[l.to] = a.or(after[l.to], l.set)
	}
	a.spread(after, out)
	before := make([]api.Diagram, len(a.Nonterminals))
	before[pivot] = diagram.Constant(true)
	a.spread(before, outgoing(len(before), turned(links)))
	for i, set := range before {
		after[i] = a.and(after[i], set)
	}
	return after
}

// outside returns the links where none of their nonterminals is in its given set.
func (a *analysis) outside(links []link, sets []api.Diagram) []link {
	var rest []link
	for _, l := range links {
		l.set = a.without(a.without(l.set, sets[l.from]), sets[l.to])
		if some(l.set) {
			rest = append(rest, l)
		}
	}
	return rest
}
