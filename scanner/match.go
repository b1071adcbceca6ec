package scanner

import (
	"slices"

	"koine/sets"
)

// A thread is a state that reaches the beginning of a piece, in the configurations of a set.
type thread struct{ state, set int }

// A visit is a state that reaches the beginning of a piece in some configurations.
type visit struct{ piece, state int }

// An end is one of a match of a token, in the configurations of a set.
type end struct{ token, at, set int }

// A step is what the matches from an offset do in one piece: the threads with which they reach it, and the ends that they have there.
type step struct {
	piece   int
	threads []thread
	ends    []end
}

// follow returns the steps of the matches that begin at an offset in the configurations of a set.
func (l *lexer) follow(at, set int) []step {
	first := step{piece: l.piece}
	var next []thread
	matches, states := l.run(l.text, at, l.pieces[l.piece].to, l.begin(l.text[at]))
	for _, m := range matches {
		first.ends = append(first.ends, end{m.token, m.end, l.And(set, l.present[m.token])})
	}
	for _, n := range states {
		next = append(next, thread{n, l.And(set, l.present[l.states[n].token])})
	}
	steps := []step{first}
	for k := l.piece + 1; k < len(l.pieces) && len(next) > 0; k++ {
		var s step
		s, next = l.cross(k, next)
		steps = append(steps, s)
	}
	return steps
}

// cross lets threads pass a piece: in the configurations that have the piece, its bytes are read, and in the others, the threads reach the next piece as they are. It returns the step and the threads that reach the next piece.
func (l *lexer) cross(k int, threads []thread) (step, []thread) {
	p := l.pieces[k]
	s := step{piece: k, threads: threads}
	next := make([]thread, 0, len(threads)+1)
	clear(l.places)
	add := func(state, set int) {
		if set == sets.Nothing {
			return
		}
		i, ok := l.places[state]
		if !ok {
			l.places[state] = len(next)
			next = append(next, thread{state, set})
			return
		}
		next[i].set = l.Or(next[i].set, set)
	}
	var bundles []bundle
	for i := range threads {
		t := &threads[i]
		t.set = l.Without(t.set, l.vain[visit{k, t.state}])
		with, without := l.Split(t.set, p.set)
		add(t.state, without)
		bundles = bundled(bundles, t.state, with)
	}
	for _, b := range bundles {
		matches, states := l.run(l.text, p.from, p.to, b.states)
		for _, m := range matches {
			s.ends = append(s.ends, end{m.token, m.end, b.set})
		}
		for _, n := range states {
			add(n, b.set)
		}
	}
	return s, next
}

// A bundle is the states of threads with the same set.
type bundle struct {
	set    int
	states []int
}

// bundled adds a thread to the bundle with its set.
func bundled(bundles []bundle, state, set int) []bundle {
	if set == sets.Nothing {
		return bundles
	}
	i := slices.IndexFunc(bundles, func(b bundle) bool { return b.set == set })
	if i < 0 {
		return append(bundles, bundle{set, []int{state}})
	}
	bundles[i].states = append(bundles[i].states, state)
	return bundles
}
