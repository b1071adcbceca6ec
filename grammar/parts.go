package grammar

import "koine/api"

// Kinds of parts of an encoding.
const (
	numberPart = iota
	boolPart
	rankPart // a number from -1 on
	textPart
	listPart
	structPart
	kinds // how many kinds there are
)

// A part is a place in a grammar that an encoding has a part for. Its kind says which of the other fields it has.
type part struct {
	kind    int
	number  *int
	truth   *bool
	text    *string
	length  int              // of a list
	element func(i int) part // of a list; it adds the element if this is the next one
	fields  []part
}

func number(n *int) part            { return part{kind: numberPart, number: n} }
func truth(b *bool) part            { return part{kind: boolPart, truth: b} }
func rank(n *int) part              { return part{kind: rankPart, number: n} }
func text(s *string) part           { return part{kind: textPart, text: s} }
func structure(fields ...part) part { return part{kind: structPart, fields: fields} }

// list returns the part of a list, given the parts of its elements.
func list[L ~[]T, T any](l *L, element func(*T) part) part {
	return part{kind: listPart, length: len(*l), element: func(i int) part {
		if i == len(*l) {
			*l = append(*l, *new(T))
		}
		return element(&(*l)[i])
	}}
}

// whole returns the part that a grammar is. Here and below, the fields have the order in which package api declares them.
func whole(g *api.Grammar) part {
	return structure(list(&g.Conditions, text), set(&g.Family), list(&g.Tokens, token), list(&g.Nonterminals, text),
		list(&g.Productions, production), number(&g.Start), list(&g.Levels, level), list(&g.Filters, filter))
}

func set(d *api.Diagram) part {
	return structure(list(&d.Nodes, branch), number(&d.Root))
}

func branch(b *api.Branch) part {
	return structure(number(&b.Var), number(&b.Low), number(&b.High))
}

func token(t *api.Token) part {
	return structure(text(&t.Name), number(&t.Class), text(&t.Literal), list(&t.Pattern, patternNode), text(&t.Sample), set(&t.If))
}

func patternNode(n *api.PatternNode) part {
	return structure(number(&n.Kind), number(&n.Lo), number(&n.Hi), number(&n.A), number(&n.B))
}

func production(p *api.Production) part {
	return structure(text(&p.Name), number(&p.Left), list(&p.Right, symbol), set(&p.If), truth(&p.Bracket), rank(&p.Rank),
		list(&p.Layout, constraint), scope(&p.Scope))
}

func symbol(s *api.Symbol) part {
	return structure(truth(&s.Token), number(&s.Index))
}

func constraint(l *api.Constraint) part {
	return structure(number(&l.Kind), number(&l.A), number(&l.B))
}

func scope(s *api.Scope) part {
	return structure(truth(&s.Opens), number(&s.Declares), number(&s.Kind), number(&s.Uses), number(&s.Allowed))
}

func level(l *api.Level) part {
	return structure(list(&l.Productions, number), number(&l.Assoc), set(&l.If))
}

func filter(f *api.Filter) part {
	return structure(number(&f.Kind), number(&f.Parent), number(&f.At), number(&f.Child), number(&f.Left), number(&f.Token),
		list(&f.Tokens, number), set(&f.If))
}
