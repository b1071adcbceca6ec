package scanner

import "koine/api"

// A machine reads texts for several tokens at once. Its states are the bytes of the literals and the nodes of the patterns, one token after the other. A match has a set of states, each of which can read the next byte; nodes that read no byte are never among them.
type machine struct {
	tokens  []api.Token
	bases   []int // the number of the first state of each token
	states  []state
	initial []int          // the states that can read the first byte of a token
	begins  map[byte][]int // by bytes, as far as they are known: the initial states that can read them
	steps   int            // how many bytes have been read
	walks   int            // how many walks through patterns there were
	spare   [2][]int
	matches []match
	last    []int // for each token, the end of its match in matches, or 0
}

type state struct {
	token, parent int // the parent is the node of the pattern of which this one is an operand, or -1
	tail          int // the greatest node that ends where this one ends; what can follow is the same for both, and only kept for the tail
	lo, hi        byte
	known         bool  // next and ends are known
	next          []int // the states that can read the byte behind this one
	ends          bool  // the token can end here
	reached, done int   // the last steps that led to this state, and past it
	entered, left int   // the last walks that began this node, and that ended it
}

// A match of a token ends at an offset.
type match struct{ token, end int }

// newMachine returns a machine for those of a grammar's tokens that are wanted.
func newMachine(tokens []api.Token, wanted func(t int) bool) *machine {
	m := &machine{tokens: tokens, bases: make([]int, len(tokens)), begins: map[byte][]int{}, last: make([]int, len(tokens))}
	size := 0
	for i, t := range tokens {
		m.bases[i] = size
		if wanted(i) {
			size += len(t.Literal) + len(t.Pattern)
		}
	}
	m.states = make([]state, 0, size)
	for i := range tokens {
		if wanted(i) {
			m.add(i)
		}
	}
	return m
}

// add adds the states of a token.
func (m *machine) add(t int) {
	base := len(m.states)
	for i, b := range []byte(m.tokens[t].Literal) {
		m.states = append(m.states, state{token: t, tail: base + i, lo: b, hi: b})
	}
	if m.tokens[t].Literal != "" {
		m.initial = append(m.initial, base)
		return
	}
	for i, n := range m.tokens[t].Pattern {
		m.states = append(m.states, state{token: t, parent: -1, tail: base + i, lo: byte(n.Lo), hi: byte(n.Hi)})
		switch n.Kind {
		case api.PatternSeq, api.PatternAlt:
			m.states[base+n.A].parent, m.states[base+n.B].parent = i, i
		case api.PatternRepeat:
			m.states[base+n.A].parent = i
		}
	}
	m.shareTails(base, m.tokens[t].Pattern)
	w := m.walk(t)
	w.enter(len(w.pattern) - 1)
	m.initial = append(m.initial, w.reached...)
}

// shareTails finds the tails of a pattern's nodes.
func (m *machine) shareTails(base int, p api.Pattern) {
	for i := len(p) - 2; i >= 0; i-- {
		s := &m.states[base+i]
		if n := p[s.parent]; n.Kind == api.PatternAlt || n.Kind == api.PatternSeq && n.B == i {
			s.tail = m.states[base+s.parent].tail
		}
	}
}

// begin returns the states that can read the first byte of a token if this is b.
func (m *machine) begin(b byte) []int {
	list, known := m.begins[b]
	if known {
		return list
	}
	for _, n := range m.initial {
		if m.states[n].reads(b) {
			list = append(list, n)
		}
	}
	m.begins[b] = list
	return list
}

func (s *state) reads(b byte) bool { return s.lo <= b && b <= s.hi }

// expand finds what can follow a state.
func (m *machine) expand(n int) {
	s := &m.states[n]
	s.known = true
	i, literal := n-m.bases[s.token], m.tokens[s.token].Literal
	switch {
	case literal == "":
		w := m.walk(s.token)
		w.leave(i)
		s.next, s.ends = w.reached, w.ends
	case i+1 < len(literal):
		s.next = []int{n + 1}
	default:
		s.ends = true
	}
}

// run reads a text from an offset to another one, beginning with some states, until none is left. It returns the last match of each token that has one, and the states that can read the byte at the end. Both lists are valid until the next run.
func (m *machine) run(text string, from, to int, states []int) ([]match, []int) {
	m.matches = m.matches[:0]
	advance := func(at int) {
		m.steps++
		next := m.spare[m.steps%2][:0]
		for _, n := range states {
			if m.states[n].reads(text[at]) {
				next = m.pass(m.states[n].tail, at+1, next)
			}
		}
		m.spare[m.steps%2] = next
		states = next
	}
match:
	for at := from; at < to; at++ {
		if advance(at); len(states) == 0 {
			break match
		}
	}
	for i, f := range m.matches {
		m.matches[i].end = m.last[f.token]
		m.last[f.token] = 0
	}
	return m.matches, states
}

// pass goes on where a state has ended: it adds the states that follow to a list, and notes the end of a match. In each step, it does so only once.
func (m *machine) pass(n, at int, next []int) []int {
	s := &m.states[n]
	if s.done == m.steps {
		return next
	}
	s.done = m.steps
	if !s.known {
		m.expand(n)
	}
	if s.ends {
		if m.last[s.token] == 0 {
			m.matches = append(m.matches, match{token: s.token})
		}
		m.last[s.token] = at
	}
	for _, f := range s.next {
		if m.states[f].reached != m.steps {
			m.states[f].reached = m.steps
			next = append(next, f)
		}
	}
	return next
}
