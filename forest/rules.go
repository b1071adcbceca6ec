package forest

import (
	"cmp"
	"slices"

	"koine/api"
	"koine/sets"
)

// rules are the productions of a grammar. Their symbols are numbered: the tokens first, then the nonterminals.
type rules struct {
	*sets.Numbers
	grammar  api.Grammar
	nullable []int // by nonterminals: the configurations in which they derive the empty sequence
	present  []int // by productions: the configurations in which they are present
	right    [][]int32
	used     []bool    // by symbols: whether they are in a right side
	bare     [][]int   // by nonterminals: the productions without symbols
	starts   [][]start // by nonterminals, in ascending order
	units    [][]unit  // by nonterminals, in ascending order; nil if they have not been needed
}

// A start has the productions of a nonterminal that begin with a symbol.
type start struct {
	symbol      int32
	productions []int
}

// A unit is a nonterminal to which another one leads in the configurations of a set: through a production whose other symbols derive the empty sequence.
type unit struct{ left, set int }

// newRules returns the rules of a valid grammar, given where its nonterminals are nullable.
func newRules(n *sets.Numbers, g api.Grammar, nullable []api.Diagram) *rules {
	r := &rules{Numbers: n, grammar: g}
	for _, d := range nullable {
		r.nullable = append(r.nullable, n.Number(d))
	}
	r.used = make([]bool, len(g.Tokens)+len(g.Nonterminals))
	r.bare = make([][]int, len(g.Nonterminals))
	r.starts = make([][]start, len(g.Nonterminals))
	r.units = make([][]unit, len(g.Nonterminals))
	for i, p := range g.Productions {
		r.present = append(r.present, n.Number(p.If))
		right := make([]int32, 0, len(p.Right))
		for _, s := range p.Right {
			right = append(right, r.symbol(s))
			r.used[r.symbol(s)] = true
		}
		r.right = append(r.right, right)
		if len(right) == 0 {
			r.bare[p.Left] = append(r.bare[p.Left], i)
		} else {
			r.start(p.Left, right[0], i)
		}
	}
	return r
}

// symbol returns the number of a symbol.
func (r *rules) symbol(s api.Symbol) int32 {
	if s.Token {
		return int32(s.Index)
	}
	return r.nonterminal(s.Index)
}

// nonterminal returns the number of the symbol that is a nonterminal.
func (r *rules) nonterminal(left int) int32 { return int32(len(r.grammar.Tokens) + left) }

// start adds a production of a nonterminal that begins with a symbol.
func (r *rules) start(left int, symbol int32, production int) {
	i, ok := slices.BinarySearchFunc(r.starts[left], symbol, compareStart)
	if !ok {
		r.starts[left] = slices.Insert(r.starts[left], i, start{symbol: symbol})
	}
	s := &r.starts[left][i]
	s.productions = append(s.productions, production)
}

func compareStart(s start, symbol int32) int { return cmp.Compare(s.symbol, symbol) }

// unitsOf returns the units of a nonterminal.
func (r *rules) unitsOf(left int) []unit {
	if r.units[left] == nil {
		list := []unit{}
		for _, s := range r.starts[left] {
			for _, p := range s.productions {
				list = r.unitsIn(list, p)
			}
		}
		slices.SortFunc(list, func(a, b unit) int { return cmp.Compare(a.left, b.left) })
		r.units[left] = r.united(list)
	}
	return r.units[left]
}

// unitsIn adds the units through a production to a list.
func (r *rules) unitsIn(list []unit, production int) []unit {
	right := r.grammar.Productions[production].Right
	if slices.ContainsFunc(right, func(s api.Symbol) bool { return s.Token }) {
		return list
	}
	for i, s := range right {
		set := r.present[production]
		for j, other := range right {
			if j != i && set != sets.Nothing {
				set = r.And(set, r.nullable[other.Index])
			}
		}
		if set != sets.Nothing {
			list = append(list, unit{s.Index, set})
		}
	}
	return list
}

// united returns sorted units with one for each nonterminal to which they lead.
func (r *rules) united(list []unit) []unit {
	rest := list[:0]
	for _, u := range list {
		if last := len(rest) - 1; last >= 0 && rest[last].left == u.left {
			rest[last].set = r.Or(rest[last].set, u.set)
		} else {
			rest = append(rest, u)
		}
	}
	return rest
}
