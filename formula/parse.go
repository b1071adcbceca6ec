package formula

import (
	"slices"
	"strings"

	"koine/api"
)

// The tokens of expressions, beside names and constants; the end of the string counts as one.
const (
	andToken   = "&&"
	orToken    = "||"
	notToken   = "!"
	openToken  = "("
	closeToken = ")"
	endToken   = ""
)

// opening stands for an opening parenthesis among operators.
const opening = -1

// A parser reads an expression from left to right. It keeps the operators and opening parentheses that wait for the end of their last operand in a list, lest deep nesting exhaust the stack. Where the string is no expression, it panics with the error, whichever of its methods are being called.
type parser struct {
	names   []string
	rest    string
	waiting []int
	built   postorder
	unknown bool // a name is not in the list; this matters only if the whole string is an expression
}

// Parse returns the formula of a string.
func Parse(names []string, s string) (f api.Formula, e api.Errno) {
	if !validNames(names) {
		return nil, api.ErrArg
	}
	defer func() {
		if left, ok := recover().(api.Errno); ok {
			f, e = nil, left
		}
	}()
	p := parser{names: names, rest: s}
	p.expression()
	if p.unknown {
		return nil, api.ErrNone
	}
	return p.built.formula()
}

// expression reads the whole string.
func (p *parser) expression() {
	for more := true; more; more = p.operator() {
		p.operand()
	}
}

// operand reads a name or a constant with the signs of negation and opening parentheses before it.
func (p *parser) operand() {
	for {
		switch token := p.next(); token {
		case notToken:
			p.waiting = append(p.waiting, api.OpNot)
		case openToken:
			p.waiting = append(p.waiting, opening)
		case andToken, orToken, closeToken, endToken:
			panic(api.ErrSyntax)
		default:
			p.word(token)
			return
		}
	}
}

// word adds a name or a constant.
func (p *parser) word(token string) {
	switch token {
	case trueName:
		p.built.add(api.OpTrue, 0)
	case falseName:
		p.built.add(api.OpFalse, 0)
	default:
		i := slices.Index(p.names, token)
		p.unknown = p.unknown || i < 0
		p.built.add(api.OpVar, i)
	}
}

// operator reads closing parentheses and the operator behind them. It returns false if the string ends there instead.
func (p *parser) operator() bool {
	for {
		switch p.next() {
		case closeToken:
			p.apply(api.OpOr)
			if len(p.waiting) == 0 {
				panic(api.ErrSyntax)
			}
			p.waiting = p.waiting[:len(p.waiting)-1]
		case andToken:
			p.await(api.OpAnd)
			return true
		case orToken:
			p.await(api.OpOr)
			return true
		case endToken:
			p.apply(api.OpOr)
			if len(p.waiting) > 0 {
				panic(api.ErrSyntax)
			}
			return false
		default:
			panic(api.ErrSyntax)
		}
	}
}

// await lets an operator of two operands wait for the end of the second one. Operators that bind equally tightly are grouped from the left.
func (p *parser) await(op int) {
	p.apply(op)
	p.waiting = append(p.waiting, op)
}

// apply adds the operators that wait behind the last opening parenthesis and bind at least as tightly as op.
func (p *parser) apply(op int) {
	for n := len(p.waiting); n > 0; n-- {
		last := p.waiting[n-1]
		if last == opening || strength(last) < strength(op) {
			return
		}
		p.built.add(last, 0)
		p.waiting = p.waiting[:n-1]
	}
}

// next takes the next token from the rest of the string.
func (p *parser) next() string {
	p.rest = strings.TrimLeft(p.rest, " \t")
	n := tokenLength(p.rest)
	token := p.rest[:n]
	p.rest = p.rest[n:]
	return token
}

// tokenLength returns the length of the token at the beginning of s.
func tokenLength(s string) int {
	if s == "" {
		return 0
	}
	for _, token := range [...]string{andToken, orToken, notToken, openToken, closeToken} {
		if strings.HasPrefix(s, token) {
			return len(token)
		}
	}
	n := wordLength(s)
	if n == 0 {
		panic(api.ErrSyntax)
	}
	return n
}
