package scanner

import (
	"koine/api"
	"koine/sets"
)

// A lexer scans a text in many configurations at once.
type lexer struct {
	*sets.Numbers
	*machine
	text     string
	family   int
	present  []int               // for each token, the configurations in which it is present
	reserved map[reservation]int // the configurations in which a token is reserved for a literal
	pieces   []piece
	reached  map[int]int   // by offsets: the configurations in which a lexeme begins there
	vain     map[visit]int // the configurations in which nothing ends behind a visit
	places   map[int]int   // by states: the places of the visits in a list that is being made
	segment  segment       // the one of the byte at which lexemes begin
	piece    int           // its piece
	line     line
	words    []found
	remarks  []found
	faults   []fault
}

// A reservation is a token, and a literal for which it can be reserved.
type reservation struct {
	token   int
	literal string
}

// A segment is a part of the text, and the set of the configurations that have it.
type segment struct{ from, to, set int }

// A piece is a segment, or a part of one that is too long: what is known of a match is kept at the end of each piece, so that only the bytes of one piece are read again for each offset.
type piece struct{ from, to, set int }

const pieceLength = 64

// A line is the one of the byte at which lexemes begin: where it begins, and whether all its bytes so far are blanks.
type line struct {
	from  int
	blank bool
}

// newLexer returns a lexer for a text, given the numbers of sets.
func newLexer(g api.Grammar, text string, s *sets.Numbers, number func(d api.Diagram) int) *lexer {
	l := &lexer{
		Numbers:  s,
		text:     text,
		family:   number(g.Family),
		reserved: map[reservation]int{},
		reached:  map[int]int{},
		vain:     map[visit]int{},
		places:   map[int]int{},
		line:     line{blank: true},
	}
	for _, t := range g.Tokens {
		l.present = append(l.present, number(t.If))
	}
	for _, f := range g.Filters {
		if f.Kind == api.FilterReserve {
			l.reserve(g, f, number(f.If))
		}
	}
	l.machine = newMachine(g.Tokens, func(t int) bool {
		return l.present[t] != sets.Nothing && len(g.Tokens[t].Literal) <= len(text)
	})
	return l
}

// reserve adds what a filter reserves in the configurations of a set.
func (l *lexer) reserve(g api.Grammar, f api.Filter, set int) {
	for _, t := range f.Tokens {
		r := reservation{f.Token, g.Tokens[t].Literal}
		l.reserved[r] = l.Or(l.reserved[r], set)
	}
}

// scan finds all lexemes and faults of a text that consists of segments.
func (l *lexer) scan(segments []segment) {
	for _, g := range segments {
		for from := g.from; from < g.to; from += pieceLength {
			l.pieces = append(l.pieces, piece{from, min(from+pieceLength, g.to), g.set})
		}
	}
	l.reached[0] = l.family
	for _, g := range segments {
		l.segment = g
		with, without := l.Split(l.reached[g.from], g.set)
		l.reached[g.from] = with
		l.reach(g.to, without)
		for at := g.from; at < g.to && l.E == api.OK; at++ {
			l.pass(at)
			if set := l.reached[at]; set != sets.Nothing {
				l.lexeme(at, set)
			}
			delete(l.reached, at)
		}
	}
}

// reach lets a lexeme begin at an offset in the configurations of a set. Where a segment begins, those without it go on behind it.
func (l *lexer) reach(at, set int) {
	if set != sets.Nothing {
		l.reached[at] = l.Or(l.reached[at], set)
	}
}

// pass goes on to the byte at an offset.
func (l *lexer) pass(at int) {
	for l.pieces[l.piece].to <= at {
		l.piece++
	}
	if at == 0 {
		return
	}
	switch l.text[at-1] {
	case '\n':
		l.line = line{from: at, blank: true}
	case ' ', '\t':
	default:
		l.line.blank = false
	}
}
