package pattern

import "koine/api"

// maxString is the greatest number of bytes of a pattern's string.
const maxString = 8192

// A parser reads the tokens of a pattern's string from left to right. Its methods have the names of the grammar's rules; they return the node that they have added last, and whether the tokens follow the rule so far.
type parser struct {
	rest  []token
	nodes api.Pattern
}

// Parse returns the pattern of a string.
func Parse(s string) (api.Pattern, api.Errno) {
	if len(s) > maxString {
		return nil, api.ErrLarge
	}
	l, ok := tokens(s)
	if !ok {
		return nil, api.ErrPattern
	}
	p := parser{rest: l}
	if _, ok := p.alt(); !ok || len(p.rest) > 0 {
		return nil, api.ErrPattern
	}
	if len(p.nodes) > api.MaxNodes {
		return nil, api.ErrLarge
	}
	return p.nodes, api.OK
}

func (p *parser) alt() (int, bool) {
	a, ok := p.seq()
	for ok && p.take(altToken) {
		var b int
		b, ok = p.seq()
		a = p.add(api.PatternNode{Kind: api.PatternAlt, A: a, B: b})
	}
	return a, ok
}

func (p *parser) seq() (int, bool) {
	a, ok := p.rep()
	for ok && p.atAtom() {
		var b int
		b, ok = p.rep()
		a = p.add(api.PatternNode{Kind: api.PatternSeq, A: a, B: b})
	}
	return a, ok
}

func (p *parser) rep() (int, bool) {
	a, ok := p.atom()
	for ok && p.take(repeatToken) {
		a = p.add(api.PatternNode{Kind: api.PatternRepeat, A: a})
	}
	return a, ok
}

func (p *parser) atom() (int, bool) {
	switch {
	case p.take(fromToken):
		return p.brackets()
	case p.take(openToken):
		if p.take(closeToken) {
			return p.add(api.PatternNode{Kind: api.PatternEmpty}), true
		}
		a, ok := p.alt()
		return a, ok && p.take(closeToken)
	}
	b, ok := p.character()
	return p.add(single(b)), ok
}

// brackets reads a range of bytes behind its first bracket.
func (p *parser) brackets() (int, bool) {
	lo, first := p.character()
	dash := p.take(dashToken)
	hi, second := p.character()
	ok := first && dash && second && p.take(toToken) && lo <= hi
	return p.add(api.PatternNode{Kind: api.PatternRange, Lo: lo, Hi: hi}), ok
}

// character reads a character and returns the byte for which it stands.
func (p *parser) character() (int, bool) {
	if len(p.rest) == 0 || p.rest[0].reserved {
		return 0, false
	}
	b := p.rest[0].value
	p.rest = p.rest[1:]
	return b, true
}

// at reports whether the next token is this reserved byte.
func (p *parser) at(b int) bool {
	return len(p.rest) > 0 && p.rest[0] == token{reserved: true, value: b}
}

// atAtom reports whether an atom can begin with the next token.
func (p *parser) atAtom() bool {
	return p.at(fromToken) || p.at(openToken) || len(p.rest) > 0 && !p.rest[0].reserved
}

// take reads a reserved byte if it is next.
func (p *parser) take(b int) bool {
	ok := p.at(b)
	if ok {
		p.rest = p.rest[1:]
	}
	return ok
}

// add adds a node and returns its number.
func (p *parser) add(n api.PatternNode) int {
	p.nodes = append(p.nodes, n)
	return len(p.nodes) - 1
}
