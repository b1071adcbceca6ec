package facts

import "koine/api"

// A link says that something that holds of one nonterminal, or of a token, also holds of another nonterminal, in a set of configurations.
type link struct {
	from, to int
	set      api.Diagram
}

// outgoing returns, for each of n nonterminals or tokens, the links from it.
func outgoing(n int, links []link) [][]link {
	lists := make([][]link, n)
	for _, l := range links {
		lists[l.from] = append(lists[l.from], l)
	}
	return lists
}

// turned returns the links in the other direction.
func turned(links []link) []link {
	list := make([]link, len(links))
	for i, l := range links {
		list[i] = link{l.to, l.from, l.set}
	}
	return list
}

// spread extends sets, one for each nonterminal, along the links that go out from each nonterminal.
func (a *algebra) spread(list []api.Diagram, links [][]link) {
	fixpoint(list, a.join, func(fresh []int, put func(n int, other api.Diagram)) {
		for _, n := range fresh {
			for _, l := range links[n] {
				put(l.to, a.and(list[n], l.set))
			}
		}
	})
}
