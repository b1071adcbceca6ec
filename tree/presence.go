package tree

import (
	"koine/api"
	"koine/diagram"
)

// presence returns a function that reports whether the production and the token of a node, one of which is none, are present in a configuration.
func presence(g api.Grammar, c api.Config) func(production, token int) bool {
	productions := make([]bool, len(g.Productions))
	for i, p := range g.Productions {
		productions[i] = diagram.Holds(p.If, c)
	}
	tokens := make([]bool, len(g.Tokens))
	for i, t := range g.Tokens {
		tokens[i] = diagram.Holds(t.If, c)
	}
	return func(production, token int) bool {
		if production == none {
			return tokens[token]
		}
		return productions[production]
	}
}
