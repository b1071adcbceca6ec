package pattern

import (
	"strings"

	"koine/api"
)

// The kinds of nodes by how tightly they bind: an operand needs parentheses if it is weaker than its place demands.
const (
	altStrength = 1 + iota
	seqStrength
	repeatStrength
	atomStrength
)

func strength(kind int) int {
	switch kind {
	case api.PatternAlt:
		return altStrength
	case api.PatternSeq:
		return seqStrength
	case api.PatternRepeat:
		return repeatStrength
	}
	return atomStrength
}

// Print returns a pattern as a string.
func Print(p api.Pattern) (string, api.Errno) {
	if e := Check(p); e != api.OK {
		return "", e
	}
	var text strings.Builder
	var write func(i, least int)
	write = func(i, least int) {
		n := p[i]
		enclosed := strength(n.Kind) < least
		if enclosed {
			text.WriteByte(openToken)
		}
		switch n.Kind {
		case api.PatternEmpty:
			text.WriteByte(openToken)
			text.WriteByte(closeToken)
		case api.PatternRange:
			text.WriteString(rangeText(n))
		case api.PatternSeq:
			write(n.A, seqStrength)
			write(n.B, repeatStrength)
		case api.PatternAlt:
			write(n.A, altStrength)
			text.WriteByte(altToken)
			write(n.B, seqStrength)
		case api.PatternRepeat:
			write(n.A, repeatStrength)
			text.WriteByte(repeatToken)
		}
		if enclosed {
			text.WriteByte(closeToken)
		}
	}
	write(len(p)-1, altStrength)
	return text.String(), api.OK
}

// rangeText returns a range of bytes as a string.
func rangeText(n api.PatternNode) string {
	if n.Lo == n.Hi {
		return character(n.Lo)
	}
	return string(fromToken) + character(n.Lo) + string(dashToken) + character(n.Hi) + string(toToken)
}
