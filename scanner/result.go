package scanner

import "koine/api"

// result returns the scan that has been made.
func (l *lexer) result() api.Scan {
	x := api.Scan{End: len(l.text)}
	good := l.family
	for _, f := range l.faults {
		x.Faults = append(x.Faults, api.Fault{At: f.at, Cut: f.cut, If: l.diagram(f.set)})
		good = l.without(good, f.set)
	}
	x.Good = l.diagram(good)
	x.Lexemes = l.lexemes(l.words, good)
	x.Remarks = l.lexemes(l.remarks, good)
	return x
}

// lexemes returns those lexemes of a list that good configurations have.
func (l *lexer) lexemes(list []found, good int) []api.Lexeme {
	var lexemes []api.Lexeme
	for _, f := range list {
		set := l.and(f.set, good)
		if set == nothing {
			continue
		}
		x := api.Lexeme{From: f.from, To: f.to, Column: f.column, First: f.first, If: l.diagram(set)}
		for _, c := range f.choices {
			if set := l.and(c.set, good); set != nothing {
				x.Choices = append(x.Choices, api.Choice{Token: c.token, If: l.diagram(set)})
			}
		}
		lexemes = append(lexemes, x)
	}
	return lexemes
}
