package restrict

import (
	"sort"

	"koine/api"
)

// layout returns the step of the layout constraints.
func (r *reading) layout() step {
	outdents := outdentsOf(r.words)
	return func(node int, report func(v api.Violation)) {
		constraints := r.production(node).Layout
		if len(constraints) == 0 {
			return
		}
		kids := r.kids(node)
		for i, c := range constraints {
			a, b := kids[c.A], kids[c.B]
			if c.Kind == api.Offside {
				b = a // The constraint names no other child.
			}
			if a.from < a.to && b.from < b.to && !r.keeps(c.Kind, a, b, outdents) {
				report(api.Violation{Step: api.StepLayout, Node: node, Rule: i})
			}
		}
	}
}

// keeps reports whether the words of two children, of which there are some, keep a constraint of a kind.
func (r *reading) keeps(kind int, a, b span, outdents []int) bool {
	first, last, next := r.words[a.from], r.words[a.to-1], r.words[b.from]
	switch kind {
	case api.Offside:
		return outdents[a.from] >= a.to
	case api.Align:
		return first.Column == next.Column
	case api.Indent:
		return first.Column < next.Column
	}
	return sameLine(last, next)
}

// sameLine reports whether two words are on the same line: whether their columns differ by as much as their offsets. Columns can be any integers; if the differences agree only because that of the columns overflows, it has another sign.
func sameLine(a, b api.Word) bool {
	return a.From-b.From == a.Column-b.Column && (a.From < b.From) == (a.Column < b.Column)
}

// outdentsOf returns, for each word, the number of the next word that is the first on its line and not to the right of this word, or the number of words if there is none. So no constraint needs to look at all words of a child, which can be those of many nodes inside one another.
func outdentsOf(words []api.Word) []int {
	outdents := make([]int, len(words))
	// Of the words behind that are first on their lines, those that no nearer one is to the left of: the farthest one first, and with it the least column.
	var open []int
	for i := len(words) - 1; i >= 0; i-- {
		column := words[i].Column
		right := sort.Search(len(open), func(k int) bool { return words[open[k]].Column > column })
		outdents[i] = len(words)
		if right > 0 {
			outdents[i] = open[right-1]
		}
		if words[i].First {
			open = append(open[:right], i)
		}
	}
	return outdents
}
