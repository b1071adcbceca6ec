package facts

import (
	"slices"

	"koine/api"
	"koine/diagram"
)

// An analysis computes the sets of a valid grammar. A rough one takes each production that is present anywhere for one that is present everywhere with its tokens; its sets are nothing or everything, and not less than the exact ones.
type analysis struct {
	algebra
	api.Grammar
	rough bool
}

// present returns where a production is present with all of its tokens.
func (a *analysis) present(p api.Production) api.Diagram {
	if a.rough {
		return diagram.Constant(some(p.If))
	}
	set := a.and(a.Family, p.If)
	for _, s := range p.Right {
		if s.Token {
			set = a.and(set, a.Tokens[s.Index].If)
		}
	}
	return set
}

// erasing returns, for each production, where it is present, if it has no token: it can take part in deriving the empty sequence.
func (a *analysis) erasing() []api.Diagram {
	sets := make([]api.Diagram, len(a.Productions))
	for i, p := range a.Productions {
		if !slices.ContainsFunc(p.Right, func(s api.Symbol) bool { return s.Token }) {
			sets[i] = a.present(p)
		}
	}
	return sets
}

// presences returns, for each production, where it is present.
func (a *analysis) presences() []api.Diagram {
	sets := make([]api.Diagram, len(a.Productions))
	for i, p := range a.Productions {
		sets[i] = a.present(p)
	}
	return sets
}

// nullable returns, for each nonterminal, where it derives the empty sequence.
func (a *analysis) nullable() []api.Diagram { return a.derived(a.erasing()) }

// productive returns, for each nonterminal, where it derives a sequence of tokens.
func (a *analysis) productive() []api.Diagram { return a.derived(a.presences()) }

// derived returns, for each nonterminal, where steps lead from it to a sequence without nonterminals, if each production can be used in its given set.
func (a *analysis) derived(sets []api.Diagram) []api.Diagram {
	list := make([]api.Diagram, len(a.Nonterminals))
	users := make([][]int, len(a.Nonterminals)) // the productions that wait for a nonterminal
	for i, p := range a.Productions {
		if !some(sets[i]) {
			continue
		}
		waits := false
		for _, s := range p.Right {
			if !s.Token {
				users[s.Index] = append(users[s.Index], i)
				waits = true
			}
		}
		if !waits {
			list[p.Left] = a.or(list[p.Left], sets[i])
		}
	}
	fixpoint(list, a.join, func(fresh []int, put func(n int, other api.Diagram)) {
		for _, n := range fresh {
		productions:
			for _, i := range users[n] {
				p := a.Productions[i]
				set := sets[i]
				for _, s := range p.Right {
					if !s.Token {
						set = a.and(set, list[s.Index])
					}
					if !some(set) {
						continue productions
					}
				}
				put(p.Left, set)
			}
		}
	})
	return list
}

// usable returns, for each production, where it is present and its right side derives a sequence of tokens.
func (a *analysis) usable() []api.Diagram {
	sets := a.presences()
	productive := a.derived(sets)
	for i, p := range a.Productions {
		for _, s := range p.Right {
			if !s.Token {
				sets[i] = a.and(sets[i], productive[s.Index])
			}
		}
	}
	return sets
}

// useful returns, for each production, where it occurs in a derivation from the start symbol to a sequence of tokens.
func (a *analysis) useful() []api.Diagram {
	sets := a.usable()
	var links []link
	for i, p := range a.Productions {
		for _, s := range p.Right {
			if !s.Token {
				links = append(links, link{p.Left, s.Index, sets[i]})
			}
		}
	}
	reached := make([]api.Diagram, len(a.Nonterminals))
	reached[a.Start] = a.Family
	a.spread(reached, outgoing(len(reached), links))
	for i, p := range a.Productions {
		sets[i] = a.and(sets[i], reached[p.Left])
	}
	return sets
}
