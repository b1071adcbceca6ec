package scanner

import "koine/api"

// A walk finds the nodes of a token's pattern that can read the next byte, where a node begins or has ended.
type walk struct {
	*machine
	number  int
	base    int
	pattern api.Pattern
	reached []int // the states of these nodes
	ends    bool  // the whole pattern has ended
}

func (m *machine) walk(t int) *walk {
	m.walks++
	return &walk{machine: m, number: m.walks, base: m.bases[t], pattern: m.tokens[t].Pattern}
}

// enter goes on where node i begins.
func (w *walk) enter(i int) {
	s := &w.states[w.base+i]
	if s.entered == w.number {
		return
	}
	s.entered = w.number
	switch n := w.pattern[i]; n.Kind {
	case api.PatternRange:
		w.reached = append(w.reached, w.base+i)
	case api.PatternEmpty:
		w.leave(i)
	case api.PatternSeq:
		w.enter(n.A)
	case api.PatternAlt:
		w.enter(n.A)
		w.enter(n.B)
	case api.PatternRepeat:
		w.enter(n.A)
		w.leave(i)
	}
}

// leave goes on where node i has ended.
func (w *walk) leave(i int) {
	s := &w.states[w.base+i]
	if s.left == w.number {
		return
	}
	s.left = w.number
	if s.parent < 0 {
		w.ends = true
		return
	}
	switch n := w.pattern[s.parent]; {
	case n.Kind == api.PatternSeq && n.A == i:
		w.enter(n.B)
	case n.Kind == api.PatternRepeat:
		w.enter(n.A)
		w.leave(s.parent)
	default:
		w.leave(s.parent)
	}
}
