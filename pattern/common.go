package pattern

import (
	"cmp"
	"slices"

	"koine/api"
)

// Shortest returns the shortest nonempty string that a pattern matches, the least one of that length.
func Shortest(p api.Pattern) (string, api.Errno) {
	if e := Check(p); e != api.OK {
		return "", e
	}
	everything := api.Pattern{{Kind: api.PatternRange, Hi: maxByte}, {Kind: api.PatternRepeat}}
	return newSearch(p, everything).first()
}

// Common returns the shortest nonempty string that both patterns match, the least one of that length.
func Common(p, q api.Pattern) (string, api.Errno) {
	if e := Check(p); e != api.OK {
		return "", e
	}
	if e := Check(q); e != api.OK {
		return "", e
	}
	return newSearch(p, q).first()
}

// A pair is a place of each of two machines, which can read a byte at the same time.
type pair struct {
	p, q  int
	least int // the least byte that both can read
}

// A front is the pairs that can read the byte after a string and after no string before it.
type front struct {
	before int // the front of the string without its last byte; -1 for the empty string
	last   byte
	pairs  []pair // in the order of their least bytes
}

// A search lets two machines read the same strings, in the order of strings. It suffices that each pair is in one front: whatever leads to a match from it does so soonest behind the first string that reaches it.
type search struct {
	p, q   *machine
	agree  []places // for each place of p, those of q that can read the same byte
	seen   []places // for each place of p, those of q with which it is in a front
	fronts []front
}

func newSearch(p, q api.Pattern) *search {
	x := &search{p: newMachine(p), q: newMachine(q)}
	x.agree = make([]places, len(x.p.ranges))
	x.seen = make([]places, len(x.p.ranges))
	for i, r := range x.p.ranges {
		for j, s := range x.q.ranges {
			if r.Lo <= s.Hi && s.Lo <= r.Hi {
				x.agree[i].add(j)
			}
		}
	}
	return x
}

// first returns the first nonempty string that both machines accept.
func (x *search) first() (string, api.Errno) {
	start := x.meet(nil, &x.p.whole.first, &x.q.whole.first)
	x.advance(-1, 0, start)
	for i := 0; i < len(x.fronts); i++ {
		if s, ok := x.extend(i); ok {
			return s, api.OK
		}
	}
	return "", api.ErrNone
}

// extend lets the pairs of a front read their least bytes, the least byte first. A greater byte leads a pair nowhere else. It returns the string that is accepted first, if any is.
func (x *search) extend(at int) (string, bool) {
	for rest := x.fronts[at].pairs; len(rest) > 0; {
		b := rest[0].least
		var next []pair
		n := 0
		for ; n < len(rest) && rest[n].least == b; n++ {
			i, j := rest[n].p, rest[n].q
			if x.p.whole.last.has(i) && x.q.whole.last.has(j) {
				return x.text(at, byte(b)), true
			}
			next = x.meet(next, &x.p.follow[i], &x.q.follow[j])
		}
		x.advance(at, byte(b), next)
		rest = rest[n:]
	}
	return "", false
}

// meet adds the pairs of the given places that are in no front yet.
func (x *search) meet(pairs []pair, ps, qs *places) []pair {
	for i := range ps.all() {
		fresh := *qs
		fresh.intersect(&x.agree[i])
		fresh.subtract(&x.seen[i])
		x.seen[i].unite(&fresh)
		for j := range fresh.all() {
			pairs = append(pairs, pair{i, j, max(x.p.ranges[i].Lo, x.q.ranges[j].Lo)})
		}
	}
	return pairs
}

// advance adds a front unless it has no pairs.
func (x *search) advance(before int, last byte, pairs []pair) {
	if len(pairs) == 0 {
		return
	}
	slices.SortFunc(pairs, func(a, b pair) int { return cmp.Compare(a.least, b.least) })
	x.fronts = append(x.fronts, front{before, last, pairs})
}

// text returns the string of a front and a byte behind it.
func (x *search) text(at int, b byte) string {
	text := []byte{b}
	for ; x.fronts[at].before >= 0; at = x.fronts[at].before {
		text = append(text, x.fronts[at].last)
	}
	slices.Reverse(text)
	return string(text)
}
