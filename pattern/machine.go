package pattern

import "koine/api"

// A machine reads strings byte by byte. Its places are the nodes of the kind PatternRange of a pattern, numbered from left to right; each of them reads one byte.
type machine struct {
	ranges []api.PatternNode // the node of each place
	follow []places          // for each place, those that can read the byte after its own
	whole  part
}

// A part is what a machine knows of a node: whether it matches the empty string, and the places that can read the first byte and the last byte of its other words.
type part struct {
	empty       bool
	first, last places
}

// newMachine returns the machine of a valid pattern.
func newMachine(p api.Pattern) *machine {
	leaves := (len(p) + 1) / 2
	m := &machine{ranges: make([]api.PatternNode, 0, leaves), follow: make([]places, 0, leaves)}
	var walk func(i int) part
	walk = func(i int) part {
		n := p[i]
		switch n.Kind {
		case api.PatternRange:
			return m.place(n)
		case api.PatternSeq:
			a, b := walk(n.A), walk(n.B)
			m.connect(&a, &b)
			return sequence(a, b)
		case api.PatternAlt:
			a, b := walk(n.A), walk(n.B)
			return alternative(a, b)
		case api.PatternRepeat:
			a := walk(n.A)
			m.connect(&a, &a)
			a.empty = true
			return a
		}
		return part{empty: true}
	}
	m.whole = walk(len(p) - 1)
	return m
}

// place adds a place for a node.
func (m *machine) place(n api.PatternNode) part {
	var x part
	x.first.add(len(m.ranges))
	x.last = x.first
	m.ranges = append(m.ranges, n)
	m.follow = append(m.follow, places{})
	return x
}

// connect lets the words of b follow those of a.
func (m *machine) connect(a, b *part) {
	for place := range a.last.all() {
		m.follow[place].unite(&b.first)
	}
}

func sequence(a, b part) part {
	x := part{empty: a.empty && b.empty, first: a.first, last: b.last}
	if a.empty {
		x.first.unite(&b.first)
	}
	if b.empty {
		x.last.unite(&a.last)
	}
	return x
}

func alternative(a, b part) part {
	a.empty = a.empty || b.empty
	a.first.unite(&b.first)
	a.last.unite(&b.last)
	return a
}

// longest returns the greatest number of bytes at the beginning of s that are a word of the pattern, or -1 if none are, not even the empty string.
func (m *machine) longest(s string) int {
	n := -1
	if m.whole.empty {
		n = 0
	}
	reached := m.whole.first
	for i := 0; i < len(s) && reached != (places{}); i++ {
		next, matched := m.read(&reached, int(s[i]))
		if matched {
			n = i + 1
		}
		reached = next
	}
	return n
}

// read returns the places that can read the byte after b if the reached ones can read b, and whether a word can end with b.
func (m *machine) read(reached *places, b int) (places, bool) {
	var next places
	matched := false
	for place := range reached.all() {
		if r := &m.ranges[place]; r.Lo <= b && b <= r.Hi {
			next.unite(&m.follow[place])
			matched = matched || m.whole.last.has(place)
		}
	}
	return next, matched
}
