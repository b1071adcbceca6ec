package chart

import (
	"cmp"
	"slices"

	"koine/api"
	"koine/diagram"
	"koine/sets"
)

// A begun is an offset at which the words of the configurations of a set begin.
type begun struct{ at, set int }

// beginnings returns the beginnings of a scan in ascending order. The lexemes can be in any order, and the end can be anywhere.
func beginnings(n *sets.Numbers, x api.Scan) []begun {
	order := make([]int, len(x.Lexemes))
	for i := range order {
		order[i] = i
	}
	slices.SortFunc(order, func(i, j int) int { return cmp.Compare(x.Lexemes[i].From, x.Lexemes[j].From) })
	where := map[int]int{}
	begin := func(at, set int) {
		if set != sets.Nothing {
			where[at] = n.Or(where[at], set)
		}
	}
	rest := n.Number(x.Good)
	for _, i := range order {
		if rest == sets.Nothing {
			break
		}
		with, without := n.Split(rest, n.Number(x.Lexemes[i].If))
		begin(x.Lexemes[i].From, with)
		rest = without
	}
	begin(x.End, rest)
	list := make([]begun, 0, len(where))
	for at, set := range where {
		list = append(list, begun{at, set})
	}
	slices.SortFunc(list, func(a, b begun) int { return cmp.Compare(a.at, b.at) })
	return list
}

// valid reports whether the sets are valid that say which configurations have which words.
func valid(x api.Scan) bool {
	if diagram.Check(x.Good) != api.OK {
		return false
	}
	for i := range x.Lexemes {
		if diagram.Check(x.Lexemes[i].If) != api.OK {
			return false
		}
	}
	return true
}
