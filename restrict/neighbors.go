package restrict

import (
	"slices"

	"koine/api"
	"koine/diagram"
)

// A table has, for each nonterminal and each token, the numbers of the filters that forbid this token beside a node of this nonterminal. A nonterminal without filters has no list of tokens.
type table [][][]int

// newTable returns the table of the filters of a kind that are present in a configuration.
func newTable(g api.Grammar, kind int, c api.Config) table {
	rules := make(table, len(g.Nonterminals))
	for i, f := range g.Filters {
		if f.Kind != kind || !diagram.Holds(f.If, c) {
			continue
		}
		if rules[f.Left] == nil {
			rules[f.Left] = make([][]int, len(g.Tokens))
		}
		for _, token := range f.Tokens {
			rules[f.Left][token] = append(rules[f.Left][token], i)
		}
	}
	return rules
}

// follow returns the step of the filters for the word behind a node.
func (r *reading) follow(c api.Config) step {
	rules := newTable(r.grammar, api.FilterFollow, c)
	return r.beside(api.StepFollow, rules, func(node int) int { return r.span(node).to })
}

// precede returns the step of the filters for the word before a node.
func (r *reading) precede(c api.Config) step {
	rules := newTable(r.grammar, api.FilterPrecede, c)
	return r.beside(api.StepPrecede, rules, func(node int) int { return r.span(node).from - 1 })
}

// beside returns the step of the filters for the word beside a node whose number neighbor returns, if there is a word with this number.
func (r *reading) beside(number int, rules table, neighbor func(node int) int) step {
	var found []int // kept from node to node for its memory only
	return func(node int, report func(v api.Violation)) {
		byToken, word := rules[r.production(node).Left], neighbor(node)
		if byToken == nil || word < 0 || word >= len(r.words) {
			return
		}
		found = found[:0]
		for _, token := range r.words[word].Tokens {
			found = append(found, byToken[token]...)
		}
		// A filter can forbid several tokens of the word.
		slices.Sort(found)
		for _, rule := range slices.Compact(found) {
			report(api.Violation{Step: number, Node: node, Rule: rule})
		}
	}
}
