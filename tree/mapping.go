package tree

import (
	"slices"

	"koine/api"
	"koine/facts"
)

// CheckMapping reports whether a mapping leads from terms of g to terms of h.
func CheckMapping(g, h api.Grammar, m api.Mapping) api.Errno {
	if e := facts.Check(g); e != api.OK {
		return e
	}
	if e := facts.Check(h); e != api.OK {
		return e
	}
	if len(h.Tokens) < len(g.Tokens) || len(h.Nonterminals) < len(g.Nonterminals) {
		return api.ErrMapping
	}
	spells := spelling(h.Tokens)
	for _, r := range m {
		holes, ok := holeSymbols(g, r)
		if !ok {
			return api.ErrMapping
		}
		root, ok := template(h, r.Template, holes, spells)
		if !ok || root != (api.Symbol{Index: g.Productions[r.Production].Left}) {
			return api.ErrMapping
		}
	}
	if !complete(g, h, m) {
		return api.ErrMapping
	}
	return api.OK
}

// holeSymbols returns the symbols of the holes of a rewrite; false if there are no nodes that it can apply to.
func holeSymbols(g api.Grammar, r api.Rewrite) ([]api.Symbol, bool) {
	if !within(r.Production, len(g.Productions)) {
		return nil, false
	}
	right := g.Productions[r.Production].Right
	if r.At == none && r.Child == none {
		return right, true
	}
	if !within(r.At, len(right)) || !within(r.Child, len(g.Productions)) {
		return nil, false
	}
	child := g.Productions[r.Child]
	if right[r.At] != (api.Symbol{Index: child.Left}) {
		return nil, false
	}
	return slices.Concat(right[:r.At], child.Right, right[r.At+1:]), true
}

// template returns the symbol of the root of a template over a grammar, given the symbols of the holes; false if the list is none.
func template(h api.Grammar, list []api.TemplateNode, holes []api.Symbol, spells func(token int, text string) bool) (api.Symbol, bool) {
	if len(list) > api.MaxNodes {
		return api.Symbol{}, false
	}
	used := make([]bool, len(holes))
	hole := func(n api.TemplateNode) (api.Symbol, bool) {
		if n != (api.TemplateNode{Hole: n.Hole, Production: none, Token: none}) || !within(n.Hole, len(holes)) || used[n.Hole] {
			return api.Symbol{}, false
		}
		used[n.Hole] = true
		return holes[n.Hole], true
	}
	o, ok := outlined(len(list), func(i int) (api.Symbol, []api.Symbol, bool) {
		n := list[i]
		if n.Hole != none {
			symbol, ok := hole(n)
			return symbol, nil, ok
		}
		symbol, children, ok := symbols(&h, n.Production, n.Token)
		if symbol.Token {
			return symbol, nil, ok && spells(n.Token, n.Text)
		}
		return symbol, children, ok && n.Text == ""
	})
	return o.root, ok
}

// A trigger is what a rewrite applies to: the nodes of a production whose child at is a node of the production child, or all nodes of it (at and child are none).
type trigger struct{ production, at, child int }

// triggers returns, for each trigger of a mapping, the first rewrite that has it.
func triggers(m api.Mapping) map[trigger]int {
	first := make(map[trigger]int, len(m))
	for i, r := range m {
		t := trigger{r.Production, r.At, r.Child}
		if _, ok := first[t]; !ok {
			first[t] = i
		}
	}
	return first
}

// complete reports whether some rewrite applies to each node that cannot stay.
func complete(g, h api.Grammar, m api.Mapping) bool {
	first := triggers(m)
	has := func(production, at, child int) bool {
		_, ok := first[trigger{production, at, child}]
		return ok
	}
	productions := make([][]int, len(g.Nonterminals)) // those of each nonterminal
	for i, p := range g.Productions {
		productions[p.Left] = append(productions[p.Left], i)
	}
	stays := func(i int) bool {
		return i < len(h.Productions) && h.Productions[i].Left == g.Productions[i].Left && slices.Equal(h.Productions[i].Right, g.Productions[i].Right)
	}
	for i, p := range g.Productions {
		if stays(i) || has(i, none, none) {
			continue
		}
		divided := false // by the productions of some child
		for at, s := range p.Right {
			divided = divided || !s.Token && !slices.ContainsFunc(productions[s.Index], func(child int) bool { return !has(i, at, child) })
		}
		if !divided {
			return false
		}
	}
	return true
}
