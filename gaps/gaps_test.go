package gaps_test

import (
	"math/rand/v2"
	"slices"
	"strconv"
	"testing"

	"koine/api"
	"koine/diagram"
	"koine/gaps"
	"koine/sets"
)

// sure returns the result of a call that cannot fail.
func sure[T any](result T, e api.Errno) T {
	if e != api.OK {
		panic("error " + strconv.Itoa(int(e)))
	}
	return result
}

const conditions = 3

// single returns the set of one configuration.
func single(c api.Config) api.Diagram {
	d := diagram.Constant(true)
	for v := range conditions {
		one := sure(diagram.Var(v))
		if c>>v&1 == 0 {
			one = sure(diagram.Not(one))
		}
		d = sure(diagram.And(d, one))
	}
	return d
}

// scan returns a scan in which each configuration has some words of one byte, and the offsets of these words.
func scan(g *rand.Rand, end int) (api.Scan, [1 << conditions][]int) {
	x := api.Scan{Good: diagram.Constant(true), End: end}
	var offsets [1 << conditions][]int
	for from := range end {
		where := diagram.Constant(false)
		for c := range offsets {
			if g.IntN(4) == 0 {
				where = sure(diagram.Or(where, single(api.Config(c))))
				offsets[c] = append(offsets[c], from)
			}
		}
		if !diagram.Same(where, diagram.Constant(false)) {
			x.Lexemes = append(x.Lexemes, api.Lexeme{From: from, To: from + 1, If: where})
		}
	}
	for c := range offsets {
		offsets[c] = append(offsets[c], end)
	}
	return x, offsets
}

// The gaps are those of all configurations, each with those that have it; the gap behind a word is the next one of the same configuration.
func TestGaps(t *testing.T) {
	g := rand.New(rand.NewPCG(1, 1))
	for range 300 {
		x, offsets := scan(g, 1+g.IntN(40))
		n := sets.New()
		all := gaps.New(n, x)
		if all.Offsets[all.Last()] != x.End || len(all.Offsets) != len(x.Lexemes)+1 || !slices.IsSorted(all.Offsets) {
			t.Fatalf("the gaps of %v are %v", x, all.Offsets)
		}
		for gap, at := range all.Offsets {
			having := n.Diagram(all.Having(gap))
			for c, own := range offsets {
				if diagram.Holds(having, api.Config(c)) != slices.Contains(own, at) {
					t.Fatalf("%v: configuration %d has the gaps %v, but %d is in %v", x, c, own, at, having)
				}
			}
			if gap < all.Last() && (len(all.Words[gap]) != 1 || all.Words[gap][0].From != at) {
				t.Fatalf("%v: the words at %d are %v", x, at, all.Words[gap])
			}
			if gap == all.Last() {
				continue
			}
			next := map[int]int{} // by configurations
			for to, set := range all.Behind(gap, all.Having(gap)) {
				for c := range offsets {
					if diagram.Holds(n.Diagram(set), api.Config(c)) {
						next[c] += all.Offsets[to]
					}
				}
			}
			for c, own := range offsets {
				want := 0
				if i := slices.Index(own, at); i >= 0 {
					want = own[i+1]
				}
				if next[c] != want {
					t.Fatalf("%v: behind %d, configuration %d has the gap %d, want %d", x, at, c, next[c], want)
				}
			}
		}
	}
}

// A range over the gaps behind a word can be left early, and there are none for no configurations.
func TestBehind(t *testing.T) {
	a := sure(diagram.Var(0))
	x := api.Scan{Good: diagram.Constant(true), End: 9, Lexemes: []api.Lexeme{{From: 1, To: 2, If: diagram.Constant(true)}, {From: 4, To: 5, If: a}}}
	n := sets.New()
	g := gaps.New(n, x)
	for to, set := range g.Behind(0, sets.Everything) {
		if to != 1 || !diagram.Same(n.Diagram(set), a) {
			t.Errorf("gap %d in %v", to, n.Diagram(set))
		}
		break
	}
	for to := range g.Behind(0, sets.Nothing) {
		t.Errorf("gap %d", to)
	}
}
