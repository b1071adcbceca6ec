// Package gaps finds the gaps of a scan for all configurations at once. It is no layer; the layers that derive the words of a scan use it.
package gaps

import (
	"iter"
	"slices"

	"koine/api"
	"koine/sets"
)

// Gaps are the gaps of a valid scan in all configurations, numbered in ascending order.
type Gaps struct {
	*sets.Numbers
	Offsets []int
	Words   [][]api.Lexeme // by gaps: those that begin there
	// blocks has, on level 0, for each gap the configurations that have it, and on each further level the union for every two elements of the level before, which is unknown until it is needed.
	blocks [][]int
}

const unknown = -1

// New returns the gaps of a scan. The last one is its end, which all configurations have.
func New(n *sets.Numbers, x api.Scan) *Gaps {
	most := len(x.Lexemes) + 1
	g := &Gaps{Numbers: n, Offsets: make([]int, 0, most), Words: make([][]api.Lexeme, 0, most)}
	having := make([]int, 0, most)
	for rest := x.Lexemes; len(rest) > 0; {
		set, count := sets.Nothing, 0
		for count < len(rest) && rest[count].From == rest[0].From {
			set = n.Or(set, n.Number(rest[count].If))
			count++
		}
		g.Offsets = append(g.Offsets, rest[0].From)
		g.Words = append(g.Words, rest[:count])
		having = append(having, set)
		rest = rest[count:]
	}
	g.Offsets = append(g.Offsets, x.End)
	g.Words = append(g.Words, nil)
	g.blocks = [][]int{append(having, n.Number(x.Good))}
	for size := len(g.Offsets); size > 1; {
		size = (size + 1) / 2
		g.blocks = append(g.blocks, slices.Repeat([]int{unknown}, size))
	}
	return g
}

// Last returns the gap at the end.
func (g *Gaps) Last() int { return len(g.Offsets) - 1 }

// Having returns the configurations that have a gap.
func (g *Gaps) Having(gap int) int { return g.blocks[0][gap] }

// block returns the configurations that have one of the gaps of a block. There can be more if their set has too many branches.
func (g *Gaps) block(level, i int) int {
	if g.blocks[level][i] == unknown {
		below := g.blocks[level-1]
		set := g.block(level-1, 2*i)
		if 2*i+1 < len(below) {
			set = g.Cover(set, g.block(level-1, 2*i+1))
		}
		g.blocks[level][i] = set
	}
	return g.blocks[level][i]
}

// next returns the first gap behind another one that some configurations of a set have. The set is not empty, so there is one at the end at the latest.
func (g *Gaps) next(gap, set int) int {
	level, i := 0, gap+1
	for {
		if !g.Disjoint(g.block(level, i), set) {
			if level == 0 {
				return i
			}
			level, i = level-1, 2*i
			continue
		}
		// The larger blocks are for gaps that are far away.
		i++
		if i%2 == 0 {
			level, i = level+1, i/2
		}
	}
}

// Behind returns, for the configurations of a set that have a word at a gap, the gaps behind this word, each with those that have it.
func (g *Gaps) Behind(gap, set int) iter.Seq2[int, int] {
	return func(yield func(to, set int) bool) {
		to, rest := gap, set
		for rest != sets.Nothing && g.E == api.OK {
			to = g.next(to, rest)
			with, without := g.Split(rest, g.Having(to))
			if !yield(to, with) {
				return
			}
			rest = without
		}
	}
}
