package formula

import (
	"strings"

	"koine/api"
)

// Print returns a formula as a string.
func Print(names []string, f api.Formula) (string, api.Errno) {
	if !validNames(names) {
		return "", api.ErrArg
	}
	if !valid(f) || !named(names, f) {
		return "", api.ErrFormula
	}
	p := printer{names: names, formula: f}
	p.write(len(f)-1, 0)
	return p.text.String(), api.OK
}

// named reports whether every condition of a formula has a name.
func named(names []string, f api.Formula) bool {
	for _, n := range f {
		if n.Op == api.OpVar && n.Var >= len(names) {
			return false
		}
	}
	return true
}

type printer struct {
	names   []string
	formula api.Formula
	text    strings.Builder
}

// write writes the subformula of node i, in parentheses if its operator is weaker than least.
func (p *printer) write(i, least int) {
	n := p.formula[i]
	own := strength(n.Op)
	if own < least {
		p.text.WriteString(openToken)
	}
	switch n.Op {
	case api.OpFalse:
		p.text.WriteString(falseName)
	case api.OpTrue:
		p.text.WriteString(trueName)
	case api.OpVar:
		p.text.WriteString(p.names[n.Var])
	case api.OpNot:
		p.text.WriteString(notToken)
		p.write(n.A, own)
	case api.OpAnd:
		p.binary(n, andToken)
	case api.OpOr:
		p.binary(n, orToken)
	}
	if own < least {
		p.text.WriteString(closeToken)
	}
}

// binary writes both operands of a node. As expressions are grouped from the left, the second operand must be stronger than the node.
func (p *printer) binary(n api.FormulaNode, token string) {
	own := strength(n.Op)
	p.write(n.A, own)
	p.text.WriteString(" " + token + " ")
	p.write(n.B, own+1)
}
