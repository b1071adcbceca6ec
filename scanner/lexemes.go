package scanner

import (
	"cmp"
	"slices"

	"koine/api"
	"koine/sets"
)

// A found lexeme is a word or a remark, in the configurations of a set.
type found struct {
	from, to, column int
	first            bool
	set              int
	choices          []choice
}

// A choice is a token, in the configurations of a set.
type choice struct{ token, set int }

// A fault is an offset at which a scan is stuck, or a lexeme is cut, in the configurations of a set.
type fault struct {
	at  int
	cut bool
	set int
}

// A beginning is an offset at which lexemes begin.
type beginning struct {
	*lexer
	at   int
	left int // the configurations whose lexeme is not known
	cut  int // those whose lexeme is cut
}

// lexeme finds the lexemes that begin at an offset in the configurations of a set.
func (l *lexer) lexeme(at, set int) {
	b := beginning{lexer: l, at: at, left: set}
	words, remarks := len(l.words), len(l.remarks)
	for _, s := range slices.Backward(l.follow(at, set)) {
		b.settle(s.ends)
		for _, t := range s.threads {
			if set := l.And(t.set, b.left); set != sets.Nothing {
				v := visit{s.piece, t.state}
				l.vain[v] = l.Or(l.vain[v], set)
			}
		}
	}
	// The longest lexemes have been found first.
	slices.Reverse(l.words[words:])
	slices.Reverse(l.remarks[remarks:])
	l.fail(at, false, b.left)
	l.fail(at, true, b.cut)
}

// fail adds a fault if there are configurations that have it.
func (l *lexer) fail(at int, cut bool, set int) {
	if set != sets.Nothing {
		l.faults = append(l.faults, fault{at, cut, set})
	}
}

// settle decides on the lexeme of those configurations whose longest match has one of the ends in a piece. It requires that the ends behind this piece have been settled.
func (b *beginning) settle(ends []end) {
	slices.SortFunc(ends, func(x, y end) int { return cmp.Or(y.at-x.at, x.token-y.token) })
	for len(ends) > 0 && b.left != sets.Nothing {
		to := ends[0].at
		// Behind the segment, a token can be among the candidates several times, with different sets. There, only its class matters.
		var candidates []choice
		for len(ends) > 0 && ends[0].at == to {
			candidates = chosen(candidates, ends[0].token, b.And(ends[0].set, b.left))
			ends = ends[1:]
		}
		b.decide(to, candidates)
	}
}

// decide divides the configurations of candidates by the classes of the least ones.
func (b *beginning) decide(to int, candidates []choice) {
	word, remark, layout := sets.Nothing, sets.Nothing, sets.Nothing
	var remarks []choice
	for _, c := range candidates {
		least := b.And(c.set, b.left)
		b.left = b.Without(b.left, least)
		switch b.tokens[c.token].Class {
		case api.Ordinary:
			word = b.Or(word, least)
		case api.Remark:
			remark = b.Or(remark, least)
			remarks = chosen(remarks, c.token, least)
		default:
			layout = b.Or(layout, least)
		}
	}
	b.reach(to, layout)
	if to > b.segment.to {
		b.cut = b.Or(b.cut, b.Or(word, remark))
		return
	}
	b.words = b.found(b.words, to, word, b.choices(to, word, candidates))
	b.remarks = b.found(b.remarks, to, remark, remarks)
}

// choices returns the tokens of a word: the ordinary candidates that are not reserved.
func (b *beginning) choices(to, word int, candidates []choice) []choice {
	var list []choice
	for _, c := range candidates {
		if b.tokens[c.token].Class == api.Ordinary {
			reserved := b.reserved[reservation{c.token, b.text[b.at:to]}]
			list = chosen(list, c.token, b.Without(b.And(c.set, word), reserved))
		}
	}
	return list
}

// chosen adds a token to a list if there are configurations that have it.
func chosen(list []choice, token, set int) []choice {
	if set == sets.Nothing {
		return list
	}
	return append(list, choice{token, set})
}

// found adds a lexeme to a list if there are configurations that have it, and goes on behind it.
func (b *beginning) found(list []found, to, set int, choices []choice) []found {
	if set == sets.Nothing {
		return list
	}
	b.reach(to, set)
	return append(list, found{b.at, to, b.at - b.line.from, b.line.blank, set, choices})
}
