package tree

import (
	"koine/api"
	"koine/pattern"
)

// spelling returns a function that reports whether a text is one of a token: its literal, or a string that its pattern matches. It remembers what patterns match, as most texts occur many times.
func spelling(tokens []api.Token) func(token int, text string) bool {
	type lexeme struct {
		token int
		text  string
	}
	matched := map[lexeme]bool{}
	return func(token int, text string) bool {
		t := &tokens[token]
		if t.Literal != "" {
			return text == t.Literal
		}
		is, known := matched[lexeme{token, text}]
		if !known {
			is = pattern.Matches(t.Pattern, text)
			matched[lexeme{token, text}] = is
		}
		return is
	}
}
