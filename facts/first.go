package facts

import "koine/api"

// first returns, for each nonterminal, a list with the set for each token.
func (a *analysis) first() [][]api.Diagram {
	tokens, nonterminals := a.beginnings()
	starts, links := outgoing(len(a.Tokens), tokens), outgoing(len(a.Nonterminals), nonterminals)
	rows := make([][]api.Diagram, len(a.Nonterminals))
	for n := range rows {
		rows[n] = make([]api.Diagram, len(a.Tokens))
	}
	for t := range a.Tokens {
		if len(starts[t]) == 0 {
			continue
		}
		list := make([]api.Diagram, len(a.Nonterminals))
		for _, l := range starts[t] {
			list[l.to] = a.or(list[l.to], l.set)
		}
		a.spread(list, links)
		for n, set := range list {
			rows[n][t] = set
		}
	}
	return rows
}

// beginnings returns links from each token, and from each nonterminal, to the nonterminals that can begin with it: everything before it in a right side derives the empty sequence, and everything behind it a sequence of tokens.
func (a *analysis) beginnings() (tokens, nonterminals []link) {
	nullable := a.nullable()
	usable := a.usable()
productions:
	for i, p := range a.Productions {
		set := usable[i]
		for _, s := range p.Right {
			if !some(set) {
				continue productions
			}
			l := link{s.Index, p.Left, set}
			if s.Token {
				tokens = append(tokens, l)
				continue productions
			}
			nonterminals = append(nonterminals, l)
			set = a.and(set, nullable[s.Index])
		}
	}
	return tokens, nonterminals
}
