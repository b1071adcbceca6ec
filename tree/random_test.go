package tree_test

import (
	"math/rand/v2"
	"slices"
	"strconv"
	"strings"
	"testing"

	"koine/api"
	"koine/diagram"
	"koine/facts"
	"koine/grammar"
	"koine/scanner"
)

// A generator makes random arguments.
type generator struct{ *rand.Rand }

func seeded(k uint64) generator { return generator{rand.New(rand.NewPCG(9, k))} }

// pick returns one of several values.
func pick[T any](g generator, list ...T) T { return list[g.IntN(len(list))] }

// set returns a set of configurations of n conditions, most often a large one.
func (g generator) set(n int) api.Diagram {
	if n == 0 || g.IntN(3) > 0 {
		return all()
	}
	return set(pick(g, "A", "!A", "A || B", "A && B", "!B", "false"))
}

// grammar returns a grammar with two conditions, in which the start symbol is productive somewhere.
func (g generator) grammar() api.Grammar {
	for {
		tokens := ordinary("x", "+", "(", ")", "/[a-z][a-z]*/", "/([0-9]|x)([0-9])*/")
		for i := range tokens {
			tokens[i].If = g.set(2)
		}
		tokens = append(tokens,
			token(api.Layout, `/\x20|\x0a/`, all()),
			token(api.Remark, "/%[a-z]*;/", all()),
			token(api.Remark, "#", g.set(2)),
		)
		x := grammarOf(2, tokens)
		x.Family = set(pick(g, "true", "A || B", "A"))
		for i := range 1 + g.IntN(3) {
			x.Nonterminals = append(x.Nonterminals, "N"+strconv.Itoa(i))
		}
		for range 2 + g.IntN(6) {
			x.Productions = append(x.Productions, g.production(x))
		}
		x.Start = g.IntN(len(x.Nonterminals))
		productive, e := facts.Productive(x)
		if e == api.OK && facts.Check(x) == api.OK && !diagram.Same(productive[x.Start], none()) {
			return x
		}
	}
}

// production returns a production with a name of its own.
func (g generator) production(x api.Grammar) api.Production {
	p := api.Production{Name: "p" + strconv.Itoa(len(x.Productions)), Left: g.IntN(len(x.Nonterminals)), If: g.set(2)}
	for range pick(g, 0, 1, 1, 2, 2, 3, 4) {
		p.Right = append(p.Right, g.symbol(x))
	}
	return p
}

func (g generator) symbol(x api.Grammar) api.Symbol {
	if g.IntN(2) == 0 {
		return api.Symbol{Token: true, Index: g.IntN(6)}
	}
	return api.Symbol{Index: g.IntN(len(x.Nonterminals))}
}

// family returns the configurations of a grammar with few conditions.
func family(x api.Grammar) []api.Config {
	list, _ := grammar.Configs(x, 100)
	return list
}

// A maker derives sequences with productions of a grammar.
type maker struct {
	generator
	api.Grammar
	usable  []bool // the productions that may be used
	heights []int  // how high the lowest derivation of each nonterminal is, or far
}

const far = 1000

// maker returns a maker for a configuration, or for all productions if there is none.
func (g generator) maker(x api.Grammar, configs ...api.Config) maker {
	m := maker{g, x, make([]bool, len(x.Productions)), slices.Repeat([]int{far}, len(x.Nonterminals))}
	for i, p := range x.Productions {
		m.usable[i] = true
		for _, c := range configs {
			m.usable[i] = diagram.Holds(p.If, c) && !slices.ContainsFunc(p.Right, func(s api.Symbol) bool {
				return s.Token && !diagram.Holds(x.Tokens[s.Index].If, c)
			})
		}
	}
	for range x.Nonterminals {
		for i, p := range x.Productions {
			m.heights[p.Left] = min(m.heights[p.Left], m.height(i))
		}
	}
	return m
}

// height returns how high the lowest derivation by a production is, or far.
func (m maker) height(i int) int {
	if !m.usable[i] {
		return far
	}
	most := 0
	for _, s := range m.Productions[i].Right {
		if !s.Token {
			most = max(most, m.heights[s.Index])
		}
	}
	return min(far, most+1)
}

// choose returns a production of a nonterminal that derives something, a low one if it has to be.
func (m maker) choose(left int, low bool) int {
	var list []int
	for i, p := range m.Productions {
		if h := m.height(i); p.Left == left && h < far && (!low || h == m.heights[left]) {
			list = append(list, i)
		}
	}
	return pick(m.generator, list...)
}

// derive returns a nest without positions for a nonterminal that derives something, with about most nodes.
func (m maker) derive(left, most int) nest {
	var symbol func(s api.Symbol) nest
	symbol = func(s api.Symbol) nest {
		most--
		if s.Token {
			return nest{production: -1, token: s.Index, hole: -1, symbol: s, text: m.lexeme(s.Index)}
		}
		n := nest{production: m.choose(s.Index, most < 0), token: -1, hole: -1, symbol: s}
		for _, k := range m.Productions[n.production].Right {
			n.kids = append(n.kids, symbol(k))
		}
		return n
	}
	return symbol(api.Symbol{Index: left})
}

// lexeme returns a text of an ordinary token.
func (m maker) lexeme(i int) string {
	if t := m.Tokens[i]; t.Literal != "" {
		return t.Literal
	}
	switch m.Tokens[i].Name {
	case "/[a-z][a-z]*/":
		return pick(m.generator, "x", "a", "ab", "xx")
	case "/([0-9]|x)([0-9])*/":
		return pick(m.generator, "x", "0", "12", "x0")
	}
	return m.Tokens[i].Sample
}

// A sample is a derivation tree of a text in a configuration.
type sample struct {
	g     api.Grammar
	c     api.Config
	text  string
	plain api.Plain
	tree  api.Tree
}

// sample returns a random derivation tree of a grammar, or false if it has none in the configuration.
func (g generator) sample(t *testing.T, x api.Grammar, c api.Config, most int) (sample, bool) {
	t.Helper()
	m := g.maker(x, c)
	if m.heights[x.Start] == far {
		return sample{}, false
	}
	n := m.derive(x.Start, most)
	s := sample{g: x, c: c, text: g.write(x, c, n.leaves())}
	p, e := scanner.Plain(x, c, s.text)
	if e != api.OK || len(p.Words) != len(n.leaves()) {
		t.Fatalf("Plain of %q: %v, error %d", s.text, p, e)
	}
	s.plain, s.tree = p, placed(n, p).tree()
	return s, true
}

// write returns a text with some words, spaces and remarks.
func (g generator) write(x api.Grammar, c api.Config, words []nest) string {
	var text strings.Builder
	blank := func() {
		for range pick(g, 0, 0, 0, 1, 2) {
			text.WriteString(pick(g, " ", "\n", "%;", "%ab;", "  "))
			if diagram.Holds(x.Tokens[8].If, c) && g.IntN(3) == 0 {
				text.WriteString("#")
			}
		}
	}
	for i, w := range words {
		if i > 0 {
			text.WriteString(pick(g, " ", "\n", "%;", "%a;"))
		}
		blank()
		text.WriteString(w.text)
	}
	blank()
	return text.String()
}

// placed returns a nest with the positions of the words that are its leaves.
func placed(n nest, p api.Plain) nest {
	next := 0
	gap := func() int {
		if next == len(p.Words) {
			return p.End
		}
		return p.Words[next].From
	}
	var place func(n nest) nest
	place = func(n nest) nest {
		n.from = gap()
		if n.isLeaf() {
			n.to = p.Words[next].To
			next++
			return n
		}
		for i, k := range n.kids {
			n.kids[i] = place(k)
		}
		n.to = gap()
		return n
	}
	return place(n)
}

// damage changes something in a tree.
func (g generator) damage(x api.Tree) api.Tree {
	x = slices.Clone(x)
	for range 1 + g.IntN(2) {
		if len(x) == 0 {
			break
		}
		i, by := g.IntN(len(x)), pick(g, -1, 1)
		switch g.IntN(10) {
		case 0:
			x[i].From += by
		case 1:
			x[i].To += by
		case 2:
			x[i].From, x[i].To = x[i].From+by, x[i].To+by
		case 3:
			x[i].Production += by
		case 4:
			x[i].Token += by
		case 5:
			x = slices.Delete(x, i, i+1)
		case 6:
			x = slices.Insert(x, i, x[g.IntN(len(x))])
		case 7:
			x[i] = x[g.IntN(len(x))]
		case 8:
			x = x[:i]
		case 9:
			// nothing: the tree is as it was
		}
	}
	return x
}

// damagePlain changes something in a plain text.
func (g generator) damagePlain(p api.Plain) api.Plain {
	p = copyOf(p)
	words := p.Words
	if g.IntN(2) == 0 {
		words = p.Remarks
	}
	if len(words) == 0 || g.IntN(6) == 0 {
		p.End += pick(g, -1, 0, 1)
		p.Stuck += pick(g, -1, 0, 0, 0, 1)
		return p
	}
	w := &words[g.IntN(len(words))]
	switch g.IntN(5) {
	case 0:
		w.From += pick(g, -1, 1)
	case 1:
		w.To += pick(g, -1, 1)
	case 2:
		w.Tokens = append(w.Tokens, g.IntN(9))
	case 3:
		*w = words[g.IntN(len(words))]
	case 4:
		w.Tokens = append([]int{g.IntN(11) - 1}, w.Tokens...)
	}
	return p
}

// term returns a term of any productions of a grammar with remarks, or false if there is none.
func (g generator) term(x api.Grammar, left, most int) (api.Term, bool) {
	m := g.maker(x)
	if m.heights[left] == far {
		return api.Term{}, false
	}
	n := 0
	remarks := func() []string {
		var list []string
		for range pick(g, 0, 0, 1, 2) {
			n++
			list = append(list, pick(g, "%"+strings.Repeat("r", n)+";", "#"))
		}
		return list
	}
	y := m.derive(left, most).term(nil)
	for i, k := range y.Nodes {
		if k.Production == -1 {
			y.Nodes[i].Remarks = remarks()
		}
	}
	y.Tail = remarks()
	return y, true
}

// other returns a grammar like another one, with further tokens, nonterminals and productions, and some that differ.
func (g generator) other(x api.Grammar) api.Grammar {
	for {
		y := copyOf(x)
		if g.IntN(2) == 0 {
			y.Tokens = append(y.Tokens, token(api.Ordinary, ",", all()))
		}
		if g.IntN(2) == 0 {
			y.Nonterminals = append(y.Nonterminals, "More")
		}
		for range g.IntN(3) {
			y.Productions = append(y.Productions, g.production(y))
		}
		for range g.IntN(3) {
			i := g.IntN(len(y.Productions))
			name := y.Productions[i].Name
			y.Productions[i] = g.production(y)
			y.Productions[i].Name = name
		}
		if facts.Check(y) == api.OK {
			return y
		}
	}
}

// template returns a template for a rewrite, or false if there is none. It uses holes where it can.
func (g generator) template(m maker, left int, holes []api.Symbol) (stencil, bool) {
	used := make([]bool, len(holes))
	most := 8
	ok := true
	var part func(s api.Symbol) stencil
	part = func(s api.Symbol) stencil {
		most--
		for range 2 * len(holes) {
			if i := g.IntN(len(holes)); holes[i] == s && !used[i] && g.IntN(5) > 0 {
				used[i] = true
				return hole(i)
			}
		}
		switch {
		case s.Token:
			return fresh(s.Index, m.lexeme(s.Index))
		case m.heights[s.Index] == far:
			ok = false
			return nil
		}
		p := m.choose(s.Index, most < 0)
		var kids []stencil
		for _, k := range m.Productions[p].Right {
			kids = append(kids, part(k))
		}
		return made(p, kids...)
	}
	if m.heights[left] < far && g.IntN(4) > 0 {
		p := m.choose(left, false)
		var kids []stencil
		for _, k := range m.Productions[p].Right {
			kids = append(kids, part(k))
		}
		return made(p, kids...), ok
	}
	list := part(api.Symbol{Index: left})
	return list, ok
}

// mapping returns a mapping from a grammar to another one, which may be incomplete.
func (g generator) mapping(x, y api.Grammar) api.Mapping {
	var m api.Mapping
	maker := g.maker(y)
	add := func(r api.Rewrite) {
		holes, _ := holesOf(x, r)
		template, ok := g.template(maker, x.Productions[r.Production].Left, holes)
		if r.Template = template; ok {
			m = append(m, r)
		}
	}
	for i, p := range x.Productions {
		stays := i < len(y.Productions) && y.Productions[i].Left == p.Left && slices.Equal(y.Productions[i].Right, p.Right)
		for at, s := range p.Right {
			if s.Token || g.IntN(3) > 0 {
				continue
			}
			for child, q := range x.Productions {
				if q.Left == s.Index && g.IntN(5) > 0 {
					add(rewriteAt(i, at, child, nil))
				}
			}
		}
		if !stays && g.IntN(5) > 0 || g.IntN(3) == 0 {
			add(rewrite(i, nil))
		}
	}
	if g.IntN(2) == 0 {
		g.Shuffle(len(m), func(i, j int) { m[i], m[j] = m[j], m[i] })
	}
	return m
}
