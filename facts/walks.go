package facts

import "koine/api"

// endless returns the links where they are part of walks that have no beginning and no end. There are such walks exactly where there are cycles.
func (a *analysis) endless(links []link) []link {
	// Each round is for one direction.
	for range 2 {
		links = turned(a.entered(links))
	}
	for range 2 {
		links = turned(a.limited(links, a.beginless(links)))
	}
	return links
}

// entered returns the links that are part of a walk without a beginning if their sets do not matter. It removes those from a nonterminal to which no link leads, again and again.
func (a *analysis) entered(links []link) []link {
	entries := make([]int, len(a.Nonterminals))
	for _, l := range links {
		entries[l.to]++
	}
	var closed []int
	for i, count := range entries {
		if count == 0 {
			closed = append(closed, i)
		}
	}
	out := outgoing(len(entries), links)
	for i := 0; i < len(closed); i++ {
		for _, l := range out[closed[i]] {
			entries[l.to]--
			if entries[l.to] == 0 {
				closed = append(closed, l.to)
			}
		}
	}
	var rest []link
	for _, l := range links {
		if entries[l.from] > 0 {
			rest = append(rest, l)
		}
	}
	return rest
}

// beginless returns, for each nonterminal, where walks without a beginning lead to it.
func (a *analysis) beginless(links []link) []api.Diagram {
	n := len(a.Nonterminals)
	in, out := outgoing(n, turned(links)), outgoing(n, links)
	list := make([]api.Diagram, n)
	for _, l := range links {
		list[l.to] = a.or(list[l.to], l.set)
	}
	fixpoint(list, a.meet, func(fresh []int, put func(n int, other api.Diagram)) {
		stale := make([]bool, n)
		for _, i := range fresh {
			for _, l := range out[i] {
				stale[l.to] = true
			}
		}
		for i := range list {
			if !stale[i] {
				continue
			}
			set := api.Diagram{}
			for _, l := range in[i] {
				set = a.or(set, a.and(l.set, list[l.to]))
			}
			put(i, set)
		}
	})
	return list
}

// limited returns the links where the nonterminal that they leave is in its given set.
func (a *analysis) limited(links []link, sets []api.Diagram) []link {
	var rest []link
	for _, l := range links {
		l.set = a.and(l.set, sets[l.from])
		if some(l.set) {
			rest = append(rest, l)
		}
	}
	return rest
}
