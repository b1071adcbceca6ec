package tree

import (
	"slices"

	"koine/api"
	"koine/facts"
)

// Term returns the term of a tree.
func Term(g api.Grammar, text string, p api.Plain, t api.Tree) (api.Term, api.Errno) {
	if e := facts.Check(g); e != api.OK {
		return api.Term{}, e
	}
	o, ok := shaped(g, t)
	if !ok || o.root.Token || !usable(g, p) || p.End != len(text) || !covers(t, p.Words) {
		return api.Term{}, api.ErrTree
	}
	remarks := p.Remarks
	before := func(at int) []string { // the remarks before an offset, each of which is returned once
		var list []string
		for ; len(remarks) > 0 && remarks[0].From < at; remarks = remarks[1:] {
			list = append(list, text[remarks[0].From:remarks[0].To])
		}
		return list
	}
	nodes := make([]api.TermNode, 0, len(t))
	for _, n := range t {
		m := api.TermNode{Production: n.Production, Token: n.Token}
		if n.Production == none {
			m.Text, m.Remarks = text[n.From:n.To], before(n.From)
		}
		nodes = append(nodes, m)
	}
	return api.Term{Nodes: nodes, Tail: before(len(text))}, api.OK
}

// fitted returns the outline of a term, and whether it fits a grammar.
func fitted(g api.Grammar, t api.Term) (outline, bool) {
	o, ok := outlined(len(t.Nodes), func(i int) (api.Symbol, []api.Symbol, bool) {
		n := &t.Nodes[i]
		if n.Production != none && (n.Text != "" || len(n.Remarks) > 0) {
			return api.Symbol{}, nil, false
		}
		return symbols(&g, n.Production, n.Token)
	})
	return o, ok && !o.root.Token
}

// CheckTerm reports whether a term is one of a nonterminal in a configuration.
func CheckTerm(g api.Grammar, c api.Config, left int, t api.Term) api.Errno {
	if e := selectable(g, c); e != api.OK {
		return e
	}
	if !within(left, len(g.Nonterminals)) {
		return api.ErrArg
	}
	if len(t.Nodes) > api.MaxForest {
		return api.ErrLarge
	}
	o, ok := fitted(g, t)
	if !ok || o.root != (api.Symbol{Index: left}) || !written(g, c, t) {
		return api.ErrTerm
	}
	return api.OK
}

// written reports whether the nodes of a term that fits are present in a configuration, and its leaves and remarks have texts of their tokens.
func written(g api.Grammar, c api.Config, t api.Term) bool {
	present, spells := presence(g, c), spelling(g.Tokens)
	isRemark := func(text string) bool {
		for i, token := range g.Tokens {
			if token.Class == api.Remark && present(none, i) && spells(i, text) {
				return text != ""
			}
		}
		return false
	}
	for _, n := range t.Nodes {
		if !present(n.Production, n.Token) || n.Production == none && !spells(n.Token, n.Text) {
			return false
		}
		for _, text := range n.Remarks {
			if !isRemark(text) {
				return false
			}
		}
	}
	return !slices.ContainsFunc(t.Tail, func(text string) bool { return !isRemark(text) })
}

// Same reports whether two terms are equal.
func Same(a, b api.Term) bool {
	sameNode := func(m, n api.TermNode) bool {
		return m.Production == n.Production && m.Token == n.Token && m.Text == n.Text && slices.Equal(m.Remarks, n.Remarks)
	}
	return slices.EqualFunc(a.Nodes, b.Nodes, sameNode) && slices.Equal(a.Tail, b.Tail)
}
