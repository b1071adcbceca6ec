package forest

import (
	"cmp"
	"iter"
	"slices"

	"koine/api"
	"koine/sets"
)

// A table has the ways through the right side of a production from a gap. Each of its columns has the gaps to which the symbols so far lead, in ascending order.
type table struct {
	production int
	columns    [][]cell
	backs      []back
}

// A cell is a gap with the configurations in which symbols lead to it, and the first and the last one of its backs, or none.
type cell struct{ gap, set, first, last int32 }

// A back is a way to a cell: from a cell of the column before, through one of the links from its gap. The next one leads to the same cell.
type back struct{ cell, link, next int32 }

// table returns the table of a production from a gap, and whether its last column has cells.
func (b *builder) table(production, gap int) (*table, bool) {
	t := &table{production: production}
	t.columns = append(t.columns, []cell{{int32(gap), int32(b.present[production]), none, none}})
	for i, symbol := range b.right[production] {
		next := b.column(t, t.columns[i], symbol)
		if len(next) == 0 {
			return nil, false
		}
		t.columns = append(t.columns, next)
	}
	return t, true
}

// column returns the column to which the links with a symbol lead from the one before.
func (b *builder) column(t *table, before []cell, symbol int32) []cell {
	var next []cell
	for i, c := range before {
		links := b.links(int(c.gap))
		first, behind := run(links, symbol)
		for k := first; k < behind; k++ {
			l := links[k]
			set := b.And(int(c.set), int(l.set))
			if set == sets.Nothing {
				continue
			}
			if b.cells[l.to] == none {
				b.cells[l.to] = int32(len(next))
				next = append(next, cell{l.to, sets.Nothing, none, none})
			}
			n := &next[b.cells[l.to]]
			n.set = int32(b.Or(int(n.set), set))
			t.lead(n, back{int32(i), int32(k), none})
		}
	}
	for _, c := range next {
		b.cells[c.gap] = none
	}
	slices.SortFunc(next, func(x, y cell) int { return cmp.Compare(x.gap, y.gap) })
	return next
}

// lead adds a way to a cell, behind the others.
func (t *table) lead(c *cell, w back) {
	n := int32(len(t.backs))
	if c.first == none {
		c.first = n
	} else {
		t.backs[c.last].next = n
	}
	c.last = n
	t.backs = append(t.backs, w)
}

// end returns the cell of the last column at a gap, and whether there is one.
func (t *table) end(gap int32) (cell, bool) {
	last := t.columns[len(t.columns)-1]
	i, ok := slices.BinarySearchFunc(last, gap, func(c cell, gap int32) int { return cmp.Compare(c.gap, gap) })
	if !ok {
		return cell{}, false
	}
	return last[i], true
}

// kids produces the kids of the alternatives that lead to a cell of the last column of a table in configurations of a set, each with these configurations. The kids are in the same memory each time.
func (b *builder) kids(t *table, end cell, within int) iter.Seq2[[]api.Kid, int] {
	return func(yield func(kids []api.Kid, set int) bool) {
		kids := make([]api.Kid, len(t.columns)-1)
		var complete func(count int, c cell, set int) bool
		complete = func(count int, c cell, set int) bool {
			if count == 0 {
				return yield(kids, set)
			}
			for i := c.first; i != none; i = t.backs[i].next {
				w := t.backs[i]
				before := t.columns[count-1][w.cell]
				l := b.linked[before.gap][w.link]
				// The symbols before lead to the link in all configurations of the rest, so none of this is in vain.
				rest := b.And(b.And(set, int(before.set)), int(l.set))
				if rest == sets.Nothing {
					continue
				}
				kids[count-1] = b.kid(int(before.gap), l)
				if !complete(count-1, before, rest) {
					return false
				}
			}
			return true
		}
		if set := b.And(within, int(end.set)); set != sets.Nothing {
			complete(len(kids), end, set)
		}
	}
}
