package tree

import (
	"slices"

	"koine/api"
)

// notStuck is the Stuck of a plain text that has been scanned to its end.
const notStuck = -1

// usable reports whether a plain text is usable for a grammar.
func usable(g api.Grammar, p api.Plain) bool {
	return p.Stuck == notStuck && p.End >= 0 &&
		inOrder(g, p.Words, api.Ordinary, p.End) && inOrder(g, p.Remarks, api.Remark, p.End) && apart(p.Words, p.Remarks)
}

// inOrder reports whether lexemes follow one another up to the end of a text, with ascending tokens of a class.
func inOrder(g api.Grammar, list []api.Word, class, end int) bool {
	at := 0
	for _, w := range list {
		if w.From < at || w.From >= w.To || w.To > end {
			return false
		}
		at = w.To
		for i, token := range w.Tokens {
			if i > 0 && token <= w.Tokens[i-1] || !within(token, len(g.Tokens)) || g.Tokens[token].Class != class {
				return false
			}
		}
	}
	return true
}

// apart reports whether none of the remarks has a byte in common with one of the words, both of which are in order.
func apart(words, remarks []api.Word) bool {
	for len(words) > 0 && len(remarks) > 0 {
		switch {
		case words[0].To <= remarks[0].From:
			words = words[1:]
		case remarks[0].To <= words[0].From:
			remarks = remarks[1:]
		default:
			return false
		}
	}
	return true
}

// covers reports whether the leaves of a tree are the given words, each as one of its tokens.
func covers(t api.Tree, words []api.Word) bool {
	covered := 0
	for j, leaf := range leaves(t) {
		if j == len(words) {
			return false
		}
		w := words[j]
		if leaf.From != w.From || leaf.To != w.To || !slices.Contains(w.Tokens, leaf.Token) {
			return false
		}
		covered++
	}
	return covered == len(words)
}

// atGaps reports whether each node of a tree that covers the words of a plain text, unless it is a leaf, begins and ends at the gaps around its words.
func (o outline) atGaps(t api.Tree, p api.Plain) bool {
	gap := func(j int) int {
		if j < len(p.Words) {
			return p.Words[j].From
		}
		return p.End
	}
	before := make([]int, len(t)+1) // how many leaves precede each node
	for i, n := range t {
		before[i+1] = before[i]
		if n.Production == none {
			before[i+1]++
		}
	}
	for i, n := range t {
		if n.Production != none && (n.From != gap(before[i]) || n.To != gap(before[o.ends[i]])) {
			return false
		}
	}
	return true
}
