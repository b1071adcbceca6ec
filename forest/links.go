package forest

import (
	"cmp"
	"slices"

	"koine/api"
	"koine/sets"
)

// A link is a kid that leads from a gap to a later one, or to the same one, in the configurations of a set. It has the number of a span, or none for a word, and the offset of its end.
type link struct{ symbol, to, set, span, end int32 }

// compareLinks orders links from the same gap, first by their symbols.
func compareLinks(a, b link) int {
	return cmp.Or(cmp.Compare(a.symbol, b.symbol), cmp.Compare(a.end, b.end), cmp.Compare(a.to, b.to))
}

// links returns the links from a gap in their order.
func (b *builder) links(gap int) []link {
	if b.linked[gap] == nil {
		list := b.words(gap)
		for i := b.begins[gap]; i < b.begins[gap+1]; i++ {
			s := b.spans[i]
			if symbol := b.nonterminal(int(s.left)); b.used[symbol] {
				list = append(list, link{symbol, s.to, s.set, int32(i), int32(b.Offsets[s.to])})
			}
		}
		slices.SortFunc(list, compareLinks)
		b.linked[gap] = list
	}
	return b.linked[gap]
}

// words returns the links for the words at a gap.
func (b *builder) words(gap int) []link {
	list := []link{}
	for _, x := range b.Words[gap] {
		choices := slices.DeleteFunc(slices.Clone(x.Choices), func(t api.Choice) bool { return !b.used[t.Token] })
		if len(choices) == 0 {
			continue
		}
		for to, having := range b.Behind(gap, b.Number(x.If)) {
			for _, t := range choices {
				if set := b.And(having, b.Number(t.If)); set != sets.Nothing {
					list = append(list, link{int32(t.Token), int32(to), int32(set), none, int32(x.To)})
				}
			}
		}
	}
	return list
}

// run returns where the links with a symbol are in a list of links from the same gap.
func run(links []link, symbol int32) (first, behind int) {
	compare := func(l link, symbol int32) int { return cmp.Compare(l.symbol, symbol) }
	first, _ = slices.BinarySearchFunc(links, symbol, compare)
	count, _ := slices.BinarySearchFunc(links[first:], symbol+1, compare)
	return first, first + count
}

// candidates returns the productions of a nonterminal that can begin at a gap, in ascending order.
func (b *builder) candidates(left, gap int) []int {
	list := slices.Clone(b.bare[left])
	starts, links := b.starts[left], b.links(gap)
	if len(starts) <= len(links) {
		for _, s := range starts {
			if first, behind := run(links, s.symbol); first < behind {
				list = append(list, s.productions...)
			}
		}
	} else {
		for at := 0; at < len(links); {
			if i, ok := slices.BinarySearchFunc(starts, links[at].symbol, compareStart); ok {
				list = append(list, starts[i].productions...)
			}
			_, at = run(links, links[at].symbol)
		}
	}
	slices.Sort(list)
	return list
}

// kid returns the kid of a link from a gap. The node of a span has the number of the span as long as not all nodes are known.
func (b *builder) kid(from int, l link) api.Kid {
	k := api.Kid{Node: int(l.span), Token: none, From: b.Offsets[from], To: int(l.end)}
	if l.span == none {
		k.Token = int(l.symbol)
	}
	return k
}
