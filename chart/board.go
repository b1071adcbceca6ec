package chart

import "koine/sets"

// A board has, for each state and gap, the configurations in which the state has been reached there and that have not been taken from it. Nearly all of these sets are empty, so only parts of it have memory.
type board struct {
	gaps    int
	agenda  agenda
	states  [][]int32 // by gaps: the states that have been reached there
	pages   [][]*page // by states, and by the gaps divided by pageSize
	used    []use
	cleared []*page // pages without any sets, to be used again
}

const pageSize = 1 << 10

type page [pageSize]int32

// A use is where a page is.
type use struct{ state, number int }

func newBoard(states, gaps int) *board {
	return &board{gaps: gaps, agenda: newAgenda(gaps), states: make([][]int32, gaps), pages: make([][]*page, states)}
}

// page returns a page of a state.
func (b *board) page(state, number int) *page {
	if b.pages[state] == nil {
		b.pages[state] = make([]*page, (b.gaps+pageSize-1)/pageSize)
	}
	p := b.pages[state][number]
	if p == nil {
		if last := len(b.cleared) - 1; last >= 0 {
			p, b.cleared = b.cleared[last], b.cleared[:last]
		} else {
			p = new(page)
		}
		b.pages[state][number] = p
		b.used = append(b.used, use{state, number})
	}
	return p
}

// note notes that a state has been reached at a gap where it had not been.
func (b *board) note(state, gap int) {
	if len(b.states[gap]) == 0 {
		b.agenda.add(gap)
	}
	b.states[gap] = append(b.states[gap], int32(state))
}

// take removes the states that have been reached at a gap, each with its set.
func (b *board) take(gap int, reach func(state, set int)) {
	for _, s := range b.states[gap] {
		cell := &b.pages[s][gap/pageSize][gap%pageSize]
		reach(int(s), int(*cell))
		*cell = sets.Nothing
	}
	b.states[gap] = b.states[gap][:0]
}

// clear lets the pages be used elsewhere. It requires that all states have been taken.
func (b *board) clear() {
	for _, u := range b.used {
		b.cleared = append(b.cleared, b.pages[u.state][u.number])
		b.pages[u.state][u.number] = nil
	}
	b.used = b.used[:0]
}
