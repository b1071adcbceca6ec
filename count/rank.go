package count

import (
	"cmp"
	"slices"

	"koine/api"
)

// A ranking finds the parts of a tree among the trees of nodes. Which part of a list of nodes is a tree is up to the forest: it need not fit a grammar, so its alternatives of a production can have different numbers of kids.
type ranking struct {
	*counting
	tree  api.Tree
	found map[place][]stretch
	next  []stretch
}

// A place is a node of the forest, and a node of the tree from which on it is looked for.
type place struct{ node, at int }

// A stretch is a part of the tree up to an end that is a tree of a node of the forest, or trees of the first kids of an alternative one behind the other; and how many such trees, or combinations of them, are before its first occurrence.
type stretch struct {
	end    int
	before api.Nat
}

// A search is what has been done of the search at a place.
type search struct {
	place
	alternative int
	kid         int       // how many kids of the alternative have been passed
	ways        []stretch // of these kids
	finds       []stretch // of the node
}

// rank returns how many trees are before a tree, or ErrTree if it is none of the forest.
func (n *counting) rank(t api.Tree) (api.Nat, api.Errno) {
	r := ranking{counting: n, tree: t, found: map[place][]stretch{}}
	var before api.Nat
	for _, root := range n.roots {
		for _, x := range r.look(place{root, 0}) {
			if x.end == len(t) {
				return n.plus(before, x.before), api.OK
			}
		}
		before = n.plus(before, n.numbers.of(root))
	}
	return nil, api.ErrTree
}

// look returns what is found at a place. The searches that wait for another one are in a list, as there can be as many as the tree has nodes.
func (r *ranking) look(p place) []stretch {
	if !r.likely(p) {
		return nil
	}
	open := []search{r.begin(p)}
	for len(open) > 0 {
		s := &open[len(open)-1]
		if missing, ok := r.proceed(s); ok {
			open = append(open, r.begin(missing))
			continue
		}
		r.found[s.place] = s.finds
		open = open[:len(open)-1]
	}
	return r.found[p]
}

// likely reports whether the node of the tree at a place can be that of an alternative of the node of the forest.
func (r *ranking) likely(p place) bool {
	if p.at >= len(r.tree) {
		return false
	}
	x, node := r.tree[p.at], &r.forest.Nodes[p.node]
	return x.Token == none && x.From == node.From && x.To == node.To
}

// begin returns the search at a place, in which nothing has been done.
func (r *ranking) begin(p place) search {
	k, _ := slices.BinarySearchFunc(r.forest.Nodes[p.node].Alternatives, r.tree[p.at].Production, func(a api.Alternative, production int) int {
		return cmp.Compare(a.Production, production)
	})
	return search{place: p, alternative: k, ways: []stretch{{end: p.at + 1}}}
}

// proceed goes on with a search. If something has to be found at another place before, it returns this place and true.
func (r *ranking) proceed(s *search) (place, bool) {
	alternatives := r.forest.Nodes[s.node].Alternatives
	for s.alternative < len(alternatives) && alternatives[s.alternative].Production == r.tree[s.at].Production {
		kids := alternatives[s.alternative].Kids
		if !r.has(s.node, s.alternative) {
			s.alternative++
			continue
		}
		for ; s.kid < len(kids); s.kid++ {
			if missing, ok := r.missing(s.ways, kids[s.kid]); ok {
				return missing, true
			}
			r.pass(s.ways, kids[s.kid])
			s.ways = append(s.ways[:0], r.next...)
		}
		r.add(s)
		s.alternative++
		s.kid, s.ways = 0, append(s.ways[:0], stretch{end: s.at + 1})
	}
	return place{}, false
}

// missing returns a place behind some ways at which a kid has not been looked for, and true if there is one.
func (r *ranking) missing(ways []stretch, k api.Kid) (place, bool) {
	if k.Node == none {
		return place{}, false
	}
	for _, w := range ways {
		p := place{k.Node, w.end}
		if _, ok := r.found[p]; !ok && r.likely(p) {
			return p, true
		}
	}
	return place{}, false
}

// pass makes the next ways of some ways and a further kid.
func (r *ranking) pass(ways []stretch, k api.Kid) {
	r.next = r.next[:0]
	for _, w := range ways {
		if k.Node == none {
			if w.end < len(r.tree) && r.tree[w.end] == (api.Node{Production: none, Token: k.Token, From: k.From, To: k.To}) {
				r.next = extended(r.next, stretch{w.end + 1, w.before})
			}
			continue
		}
		for _, x := range r.found[place{k.Node, w.end}] {
			before := x.before
			if len(w.before) > 0 {
				before = r.plus(r.times(w.before, r.numbers.of(k.Node)), before)
			}
			r.next = extended(r.next, stretch{x.end, before})
		}
	}
}

// extended returns some stretches with another one, which has more trees before it. Only the first one up to each end counts.
func extended(list []stretch, s stretch) []stretch {
	if slices.ContainsFunc(list, func(x stretch) bool { return x.end == s.end }) {
		return list
	}
	return append(list, s)
}

// add adds the ways of all kids of an alternative to what a search has found. The trees of the alternatives before it come first.
func (r *ranking) add(s *search) {
	for _, w := range s.ways {
		if s.alternative > 0 {
			w.before = r.plus(r.sums.of(s.node)[s.alternative-1], w.before)
		}
		s.finds = extended(s.finds, w)
	}
}
