package facts_test

import (
	"slices"
	"strings"

	"koine/api"
	"koine/diagram"
)

// An answer is what the chapter says of the grammar in one configuration.
type answer struct {
	nullable, productive, useful, cyclic []bool
	first                                [][]bool
}

// blank returns the answer in which nothing holds.
func blank(g api.Grammar) answer {
	n := len(g.Nonterminals)
	a := answer{make([]bool, n), make([]bool, n), make([]bool, len(g.Productions)), make([]bool, n), make([][]bool, n)}
	for i := range a.first {
		a.first[i] = make([]bool, len(g.Tokens))
	}
	return a
}

// at returns what a result says of a configuration.
func (r result) at(g api.Grammar, c api.Config) answer {
	a := blank(g)
	fill := func(values []bool, sets []api.Diagram) {
		for i, d := range sets {
			values[i] = diagram.Holds(d, c)
		}
	}
	fill(a.nullable, r.nullable)
	fill(a.productive, r.productive)
	fill(a.useful, r.useful)
	fill(a.cyclic, r.cyclic)
	for i, row := range r.first {
		fill(a.first[i], row)
	}
	return a
}

// present reports whether a production is in the grammar in a configuration.
func present(g api.Grammar, p api.Production, c api.Config) bool {
	return diagram.Holds(p.If, c) && !slices.ContainsFunc(p.Right, func(s api.Symbol) bool {
		return s.Token && !diagram.Holds(g.Tokens[s.Index].If, c)
	})
}

// A search looks for derivations by their definition, in one configuration: it makes derivation steps on sequences of symbols of limited length. A symbol is a letter as in made. Steps can be made in any order, so that the shortest derivations need no sequences longer than a right side and a derivation of height n, if there are n nonterminals.
type search struct {
	g       api.Grammar
	c       api.Config
	longest int
}

func searchIn(g api.Grammar, c api.Config) search {
	right := 1
	for _, p := range g.Productions {
		right = max(right, len(p.Right))
	}
	return search{g, c, right + len(g.Nonterminals)*(right-1)}
}

func letters(right []api.Symbol) string {
	var b strings.Builder
	for _, s := range right {
		if s.Token {
			b.WriteByte('a' + byte(s.Index))
		} else {
			b.WriteByte('A' + byte(s.Index))
		}
	}
	return b.String()
}

// reached returns the sequences that one or more steps lead to from a nonterminal. What a sequence is taken for is said by a function: it drops symbols that do not matter.
func (s search) reached(n int, drop func(sequence string) string) map[string]bool {
	seen := map[string]bool{}
	work := []string{string(rune('A' + n))}
	for len(work) > 0 {
		x := work[len(work)-1]
		work = work[:len(work)-1]
		for at := range len(x) {
			for _, p := range s.g.Productions {
				if x[at] != 'A'+byte(p.Left) || !present(s.g, p, s.c) {
					continue
				}
				y := drop(x[:at] + letters(p.Right) + x[at+1:])
				if len(dropTokens(y)) <= s.longest && !seen[y] {
					seen[y] = true
					work = append(work, y)
				}
			}
		}
	}
	return seen
}

func isToken(c rune) bool { return c >= 'a' }

// dropTokens leaves the nonterminals of a sequence: tokens stay as they are in all steps.
func dropTokens(sequence string) string {
	return strings.Map(func(c rune) rune {
		if isToken(c) {
			return -1
		}
		return c
	}, sequence)
}

// dropLater leaves the nonterminals of a sequence and its first token.
func dropLater(sequence string) string {
	if at := strings.IndexFunc(sequence, isToken); at >= 0 {
		return sequence[:at+1] + dropTokens(sequence[at:])
	}
	return sequence
}

// withoutTokens makes sequences with tokens too long: tokens stay, so nothing without tokens can be derived from them.
func withoutTokens(sequence string) string {
	if dropTokens(sequence) != sequence {
		return strings.Repeat("TOO_LONG", 99)
	}
	return sequence
}

// answer returns what holds in the configuration.
func (s search) answer() answer {
	a := blank(s.g)
	for n := range s.g.Nonterminals {
		a.productive[n] = s.reached(n, dropTokens)[""]
		exact := s.reached(n, withoutTokens)
		a.nullable[n] = exact[""]
		a.cyclic[n] = exact[string(rune('A'+n))]
		begin := s.reached(n, dropLater)
		for t := range s.g.Tokens {
			a.first[n][t] = begin[string(rune('a'+t))]
		}
	}
	start := s.reached(s.g.Start, dropTokens)
	start[string(rune('A'+s.g.Start))] = true
	ends := func(sequence string) bool {
		return !slices.ContainsFunc([]byte(sequence), func(c byte) bool { return !a.productive[c-'A'] })
	}
	for i, p := range s.g.Productions {
		for x := range start {
			at := strings.IndexByte(x, 'A'+byte(p.Left))
			if at >= 0 && present(s.g, p, s.c) && ends(dropTokens(x[:at]+letters(p.Right)+x[at+1:])) {
				a.useful[i] = true
			}
		}
	}
	return a
}

// rounds computes what holds in a configuration in the plainest way: it goes through all productions until nothing changes.
func rounds(g api.Grammar, c api.Config) answer {
	a := blank(g)
	derives := make([][]bool, len(g.Nonterminals))
	for i := range derives {
		derives[i] = make([]bool, len(g.Nonterminals))
	}
	reached := make([]bool, len(g.Nonterminals))
	reached[g.Start] = true
	for changed := true; changed; {
		changed = false
		set := func(b *bool, value bool) {
			changed = changed || value && !*b
			*b = *b || value
		}
		for i, p := range g.Productions {
			if !present(g, p, c) {
				continue
			}
			every := func(right []api.Symbol, token bool, list []bool) bool {
				return !slices.ContainsFunc(right, func(s api.Symbol) bool { return s.Token && !token || !s.Token && !list[s.Index] })
			}
			set(&a.nullable[p.Left], every(p.Right, false, a.nullable))
			ends := every(p.Right, true, a.productive)
			set(&a.productive[p.Left], ends)
			set(&a.useful[i], ends && reached[p.Left])
			for k, s := range p.Right {
				if s.Token {
					set(&a.first[p.Left][s.Index], ends && every(p.Right[:k], false, a.nullable))
					continue
				}
				set(&reached[s.Index], a.useful[i])
				rest := slices.Concat(p.Right[:k], p.Right[k+1:])
				set(&derives[p.Left][s.Index], every(rest, false, a.nullable))
				for n := range derives {
					set(&derives[p.Left][n], derives[p.Left][s.Index] && every(rest, false, a.nullable) && derives[s.Index][n])
				}
				for t := range g.Tokens {
					set(&a.first[p.Left][t], ends && every(p.Right[:k], false, a.nullable) && a.first[s.Index][t])
				}
			}
		}
	}
	for n := range derives {
		a.cyclic[n] = derives[n][n]
	}
	return a
}
