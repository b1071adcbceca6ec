package chart

import (
	"koine/api"
	"koine/sets"
)

// rules are the productions of a grammar, as far as they derive something. Their symbols are numbered: the tokens first, then the nonterminals.
type rules struct {
	*sets.Numbers
	tokens   int
	nullable []int  // by symbols: the configurations in which they derive the empty sequence
	erasable []int  // the symbols that derive it in some configurations
	used     []bool // by symbols: whether they are in a production
	states   []state
	starts   [][]start // by symbols
	known    map[state]int
}

// A state says what is left of a production some of whose symbols have been found. Productions of the same nonterminal that end alike have the same states.
type state struct{ left, symbol, next int }

// complete is the symbol of a state with which a nonterminal has been found.
const complete = -1

// A start is the state behind a symbol with which a production begins in the configurations of a set: all symbols before it derive the empty sequence.
type start struct{ state, set int }

// newRules returns the rules of a valid grammar, given where its nonterminals are nullable.
func newRules(n *sets.Numbers, g api.Grammar, nullable []api.Diagram) *rules {
	r := &rules{Numbers: n, tokens: len(g.Tokens), nullable: make([]int, len(g.Tokens)), known: map[state]int{}}
	for _, d := range nullable {
		set := n.Number(d)
		if set != sets.Nothing {
			r.erasable = append(r.erasable, len(r.nullable))
		}
		r.nullable = append(r.nullable, set)
	}
	r.used = make([]bool, len(r.nullable))
	r.starts = make([][]start, len(r.nullable))
	for _, p := range g.Productions {
		r.add(p)
	}
	return r
}

// add adds a production.
func (r *rules) add(p api.Production) {
	set := r.Number(p.If)
	if set == sets.Nothing {
		return
	}
	left := r.tokens + p.Left
	behind := make([]int, len(p.Right)) // the states behind the symbols
	next := r.state(state{left, complete, complete})
	for i := len(p.Right) - 1; i >= 0; i-- {
		behind[i] = next
		r.used[r.symbol(p.Right[i])] = true
		next = r.state(state{left, r.symbol(p.Right[i]), next})
	}
	for i, s := range p.Right {
		if set == sets.Nothing {
			return
		}
		n := r.symbol(s)
		r.starts[n] = append(r.starts[n], start{behind[i], set})
		set = r.And(set, r.nullable[n])
	}
}

// symbol returns the number of a symbol.
func (r *rules) symbol(s api.Symbol) int {
	if s.Token {
		return s.Index
	}
	return r.tokens + s.Index
}

// state returns the number of a state.
func (r *rules) state(s state) int {
	n, ok := r.known[s]
	if !ok {
		n = len(r.states)
		r.states = append(r.states, s)
		r.known[s] = n
	}
	return n
}
