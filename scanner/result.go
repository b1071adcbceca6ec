package scanner

import (
	"koine/api"
	"koine/sets"
)

// result returns the scan that has been made.
func (l *lexer) result() api.Scan {
	x := api.Scan{End: len(l.text)}
	good := l.family
	for _, f := range l.faults {
		x.Faults = append(x.Faults, api.Fault{At: f.at, Cut: f.cut, If: l.Diagram(f.set)})
		good = l.Without(good, f.set)
	}
	x.Good = l.Diagram(good)
	x.Lexemes = l.lexemes(l.words, good)
	x.Remarks = l.lexemes(l.remarks, good)
	return x
}

// lexemes returns those lexemes of a list that good configurations have.
func (l *lexer) lexemes(list []found, good int) []api.Lexeme {
	var lexemes []api.Lexeme
	for _, f := range list {
		set := l.And(f.set, good)
		if set == sets.Nothing {
			continue
		}
		x := api.Lexeme{From: f.from, To: f.to, Column: f.column, First: f.first, If: l.Diagram(set)}
		for _, c := range f.choices {
			if set := l.And(c.set, good); set != sets.Nothing {
				x.Choices = append(x.Choices, api.Choice{Token: c.token, If: l.Diagram(set)})
			}
		}
		lexemes = append(lexemes, x)
	}
	return lexemes
}
