package tree_test

import (
	"slices"

	"koine/api"
	"koine/diagram"
	"koine/pattern"
)

// The functions of this file follow the sentences of the chapter with trees whose subtrees are inside of them.

// A nest is a subtree of a tree, a term or a template with its subtrees inside.
type nest struct {
	production, token, from, to int
	text                        string
	remarks                     []string
	hole                        int
	index                       int // the number of its root in the list that it was read from
	symbol                      api.Symbol
	kids                        []nest
}

func (n nest) isLeaf() bool { return n.production == -1 && n.hole == -1 }

// all calls a function for a nest and all that is inside.
func (n nest) all(visit func(n nest)) {
	visit(n)
	for _, k := range n.kids {
		k.all(visit)
	}
}

// leaves returns the leaves of a nest in order.
func (n nest) leaves() []nest {
	var found []nest
	n.all(func(k nest) {
		if k.isLeaf() {
			found = append(found, k)
		}
	})
	return found
}

// fold puts the subtrees of a list in preorder inside of one another. It says whether the list is that of a single one. The holes of a template have the given symbols.
func fold(g api.Grammar, flat []nest, holes []api.Symbol) (nest, bool) {
	n, rest, ok := folded(g, flat, holes)
	return n, ok && len(rest) == 0
}

func folded(g api.Grammar, flat []nest, holes []api.Symbol) (nest, []nest, bool) {
	if len(flat) == 0 {
		return nest{}, nil, false
	}
	n, rest := flat[0], flat[1:]
	if n.hole >= 0 && n.hole < len(holes) && n.production == -1 && n.token == -1 {
		n.symbol = holes[n.hole]
		return n, rest, true
	}
	if n.hole == -1 && n.production == -1 && n.token >= 0 && n.token < len(g.Tokens) {
		n.symbol = api.Symbol{Token: true, Index: n.token}
		return n, rest, true
	}
	if n.hole != -1 || n.token != -1 || n.production < 0 || n.production >= len(g.Productions) {
		return nest{}, nil, false
	}
	n.symbol = api.Symbol{Index: g.Productions[n.production].Left}
	for _, s := range g.Productions[n.production].Right {
		kid, more, ok := folded(g, rest, holes)
		if !ok || kid.symbol != s {
			return nest{}, nil, false
		}
		n.kids, rest = append(n.kids, kid), more
	}
	return n, rest, true
}

// nestOf returns a tree as a nest, and whether it is shaped.
func nestOf(g api.Grammar, x api.Tree) (nest, bool) {
	var flat []nest
	for i, n := range x {
		isLeaf := n.Production == -1 && 0 <= n.From && n.From < n.To
		isNode := n.Production != -1 && 0 <= n.From && n.From <= n.To
		if !isLeaf && !isNode {
			return nest{}, false
		}
		flat = append(flat, nest{production: n.Production, token: n.Token, from: n.From, to: n.To, hole: -1, index: i})
	}
	return fold(g, flat, nil)
}

// tree returns a nest as a tree.
func (n nest) tree() api.Tree {
	var x api.Tree
	n.all(func(k nest) {
		x = append(x, api.Node{Production: k.production, Token: k.token, From: k.from, To: k.to})
	})
	return x
}

// at returns the nest of a node.
func (n nest) at(index int) (nest, bool) {
	var found nest
	ok := false
	n.all(func(k nest) {
		if k.index == index {
			found, ok = k, true
		}
	})
	return found, ok
}

// isDerived reports whether a tree has the shape of a derivation tree in a configuration.
func isDerived(g api.Grammar, c api.Config, x api.Tree) bool {
	n, ok := nestOf(g, x)
	if !ok || n.isLeaf() || n.symbol.Index != g.Start {
		return false
	}
	n.all(func(k nest) {
		if k.isLeaf() {
			ok = ok && diagram.Holds(g.Tokens[k.token].If, c)
			return
		}
		ok = ok && diagram.Holds(g.Productions[k.production].If, c) && meets(k)
	})
	return ok
}

// meets reports whether the positions of a node are consistent with those of its children.
func meets(n nest) bool {
	if len(n.kids) == 0 {
		return n.from == n.to
	}
	if n.kids[0].from != n.from {
		return false
	}
	for i, k := range n.kids {
		next := n.to
		if i+1 < len(n.kids) {
			next = n.kids[i+1].from
		}
		if k.to > next || !k.isLeaf() && k.to != next {
			return false
		}
	}
	return true
}

// isUsable reports whether a plain text is usable.
func isUsable(g api.Grammar, p api.Plain) bool {
	for _, w := range p.Words {
		for _, r := range p.Remarks {
			if w.From < r.To && r.From < w.To {
				return false
			}
		}
	}
	return p.Stuck == -1 && p.End >= 0 && areUsable(g, p.Words, p.End, api.Ordinary) && areUsable(g, p.Remarks, p.End, api.Remark)
}

func areUsable(g api.Grammar, words []api.Word, end, class int) bool {
	for i, w := range words {
		if w.From < 0 || w.From >= w.To || w.To > end || i > 0 && w.From < words[i-1].To {
			return false
		}
		for j, k := range w.Tokens {
			if k < 0 || k >= len(g.Tokens) || g.Tokens[k].Class != class || j > 0 && k <= w.Tokens[j-1] {
				return false
			}
		}
	}
	return true
}

// hasLeaves reports whether the leaves of a tree are the words of a plain text.
func hasLeaves(n nest, words []api.Word) bool {
	return slices.EqualFunc(n.leaves(), words, func(k nest, w api.Word) bool {
		return k.from == w.From && k.to == w.To && slices.Contains(w.Tokens, k.token)
	})
}

// isTree reports whether a tree is a derivation tree of a plain text in a configuration.
func isTree(g api.Grammar, c api.Config, p api.Plain, x api.Tree) bool {
	if !isUsable(g, p) || !isDerived(g, c, x) {
		return false
	}
	n, _ := nestOf(g, x)
	if !hasLeaves(n, p.Words) {
		return false
	}
	gaps := []int{}
	for _, w := range p.Words {
		gaps = append(gaps, w.From)
	}
	gaps = append(gaps, p.End)
	ok, before := true, 0
	n.all(func(k nest) {
		if k.isLeaf() {
			before++
			return
		}
		ok = ok && k.from == gaps[before] && k.to == gaps[before+len(k.leaves())]
	})
	return ok
}

// order compares two nests.
func order(a, b nest) int {
	numbers := func(list ...int) int {
		for i := 0; i < len(list); i += 2 {
			if list[i] != list[i+1] {
				return map[bool]int{true: -1, false: 1}[list[i] < list[i+1]]
			}
		}
		return 0
	}
	if d := numbers(a.token, b.token, a.production, b.production, a.from, b.from, a.to, b.to); d != 0 || a.isLeaf() {
		return d
	}
	for i := range a.kids {
		if d := numbers(a.kids[i].token, b.kids[i].token, a.kids[i].from, b.kids[i].from, a.kids[i].to, b.kids[i].to); d != 0 {
			return d
		}
	}
	for i := range a.kids {
		if d := order(a.kids[i], b.kids[i]); d != 0 {
			return d
		}
	}
	return 0
}

// termNest returns a term as a nest, and whether it fits.
func termNest(g api.Grammar, x api.Term) (nest, bool) {
	var flat []nest
	for i, n := range x.Nodes {
		if n.Production != -1 && (n.Text != "" || len(n.Remarks) > 0) {
			return nest{}, false
		}
		flat = append(flat, nest{production: n.Production, token: n.Token, text: n.Text, remarks: n.Remarks, hole: -1, index: i})
	}
	n, ok := fold(g, flat, nil)
	return n, ok && !n.isLeaf()
}

// term returns a nest as a term.
func (n nest) term(tail []string) api.Term {
	x := api.Term{Tail: tail}
	n.all(func(k nest) {
		x.Nodes = append(x.Nodes, api.TermNode{Production: k.production, Token: k.token, Text: k.text, Remarks: k.remarks})
	})
	return x
}

// isText reports whether a text is one of a token.
func isText(t api.Token, text string) bool {
	if t.Literal != "" {
		return text == t.Literal
	}
	return pattern.Matches(t.Pattern, text)
}

// isRemark reports whether a text is that of a remark in a configuration.
func isRemark(g api.Grammar, c api.Config, text string) bool {
	return text != "" && slices.ContainsFunc(g.Tokens, func(t api.Token) bool {
		return t.Class == api.Remark && diagram.Holds(t.If, c) && isText(t, text)
	})
}

// isTerm reports whether a term is one of a nonterminal in a configuration.
func isTerm(g api.Grammar, c api.Config, left int, x api.Term) bool {
	n, ok := termNest(g, x)
	if !ok || n.symbol.Index != left {
		return false
	}
	texts := slices.Clone(x.Tail)
	n.all(func(k nest) {
		if k.isLeaf() {
			texts = append(texts, k.remarks...)
			ok = ok && diagram.Holds(g.Tokens[k.token].If, c) && isText(g.Tokens[k.token], k.text)
			return
		}
		ok = ok && diagram.Holds(g.Productions[k.production].If, c)
	})
	for _, text := range texts {
		ok = ok && isRemark(g, c, text)
	}
	return ok
}

// treeTerm returns the term of a tree that has one.
func treeTerm(g api.Grammar, s string, p api.Plain, x api.Tree) api.Term {
	n, _ := nestOf(g, x)
	remarks := func(from, to int) []string {
		var list []string
		for _, r := range p.Remarks {
			if from <= r.From && r.To <= to {
				list = append(list, s[r.From:r.To])
			}
		}
		return list
	}
	var terms func(n nest) nest
	behind := 0
	terms = func(n nest) nest {
		if n.isLeaf() {
			n.text, n.remarks = s[n.from:n.to], remarks(behind, n.from)
			behind = n.to
		}
		for i, k := range n.kids {
			n.kids[i] = terms(k)
		}
		return n
	}
	n = terms(n)
	return n.term(remarks(behind, len(s)))
}

// holesOf returns the symbols of the holes of a rewrite, and whether it is one of productions of a grammar.
func holesOf(g api.Grammar, r api.Rewrite) ([]api.Symbol, bool) {
	if r.Production < 0 || r.Production >= len(g.Productions) {
		return nil, false
	}
	var holes []api.Symbol
	for i, s := range g.Productions[r.Production].Right {
		if i != r.At {
			holes = append(holes, s)
			continue
		}
		if s.Token || r.Child < 0 || r.Child >= len(g.Productions) || g.Productions[r.Child].Left != s.Index {
			return nil, false
		}
		holes = append(holes, g.Productions[r.Child].Right...)
	}
	both := r.At == -1 && r.Child == -1
	return holes, both || r.At >= 0 && r.At < len(g.Productions[r.Production].Right)
}

// templateNest returns the template of a rewrite as a nest, and whether it is one.
func templateNest(g, h api.Grammar, r api.Rewrite) (nest, bool) {
	holes, ok := holesOf(g, r)
	if !ok || len(r.Template) == 0 || len(r.Template) > 512 {
		return nest{}, false
	}
	var flat []nest
	for _, n := range r.Template {
		flat = append(flat, nest{production: n.Production, token: n.Token, text: n.Text, hole: n.Hole})
	}
	n, ok := fold(h, flat, holes)
	if !ok || n.isLeaf() || n.symbol != (api.Symbol{Index: g.Productions[r.Production].Left}) {
		return nest{}, false
	}
	found := map[int]bool{}
	n.all(func(k nest) {
		if k.isLeaf() {
			ok = ok && h.Tokens[k.token].Class == api.Ordinary && isText(h.Tokens[k.token], k.text)
			return
		}
		ok = ok && k.text == "" && !found[k.hole]
		found[k.hole] = k.hole >= 0
	})
	return n, ok
}

// isMapping reports whether a mapping leads from a grammar to another one.
func isMapping(g, h api.Grammar, m api.Mapping) bool {
	if len(h.Tokens) < len(g.Tokens) || len(h.Nonterminals) < len(g.Nonterminals) {
		return false
	}
	for _, r := range m {
		if _, ok := templateNest(g, h, r); !ok {
			return false
		}
	}
	for i := range g.Productions {
		if !isHandled(g, h, m, i) {
			return false
		}
	}
	return true
}

// isHandled reports whether a rewrite applies to each node of a production, or they can stay.
func isHandled(g, h api.Grammar, m api.Mapping, i int) bool {
	p := g.Productions[i]
	if i < len(h.Productions) && h.Productions[i].Left == p.Left && slices.Equal(h.Productions[i].Right, p.Right) {
		return true
	}
	has := func(at, child int) bool {
		return slices.ContainsFunc(m, func(r api.Rewrite) bool { return r.Production == i && r.At == at && r.Child == child })
	}
	if has(-1, -1) {
		return true
	}
	for at, s := range p.Right {
		each := !s.Token
		for child, q := range g.Productions {
			each = each && (q.Left != s.Index || has(at, child))
		}
		if each {
			return true
		}
	}
	return false
}

// image returns the image of a nest of a term.
func image(g, h api.Grammar, m api.Mapping, n nest) nest {
	if n.isLeaf() {
		return n
	}
	for _, r := range m {
		if r.Production != n.production || r.At >= 0 && n.kids[r.At].production != r.Child {
			continue
		}
		holes := slices.Clone(n.kids)
		if r.At >= 0 {
			holes = slices.Concat(n.kids[:r.At], n.kids[r.At].kids, n.kids[r.At+1:])
		}
		template, _ := templateNest(g, h, r)
		return filled(g, h, m, template, holes)
	}
	result := nest{production: n.production, token: -1, hole: -1, index: -1}
	for _, k := range n.kids {
		result.kids = append(result.kids, image(g, h, m, k))
	}
	return result
}

// filled returns a template with images in the place of its holes.
func filled(g, h api.Grammar, m api.Mapping, template nest, holes []nest) nest {
	if template.hole >= 0 {
		return image(g, h, m, holes[template.hole])
	}
	result := nest{production: template.production, token: template.token, text: template.text, hole: -1, index: -1}
	for _, k := range template.kids {
		result.kids = append(result.kids, filled(g, h, m, k, holes))
	}
	return result
}

// imageTerm returns the image of a term that fits.
func imageTerm(g, h api.Grammar, m api.Mapping, x api.Term) api.Term {
	n, _ := termNest(g, x)
	result := image(g, h, m, n)
	kept := map[int]bool{}
	for _, k := range result.leaves() {
		kept[k.index] = true
	}
	before := map[int][]string{} // the remarks of each leaf that is kept, by its index
	var dropped []string
	for _, k := range n.leaves() {
		dropped = append(dropped, k.remarks...)
		if kept[k.index] {
			before[k.index], dropped = dropped, nil
		}
	}
	var put func(n *nest)
	put = func(n *nest) {
		if n.isLeaf() && n.index >= 0 {
			n.remarks = before[n.index]
		}
		for i := range n.kids {
			put(&n.kids[i])
		}
	}
	put(&result)
	return result.term(slices.Concat(dropped, x.Tail))
}
