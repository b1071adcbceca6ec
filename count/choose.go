package count

import (
	"math/bits"
	"slices"
	"sort"

	"koine/api"
	"koine/natural"
)

// A share is a kid of a tree that is being made, with the number of its own tree.
type share struct {
	kid    *api.Kid
	number api.Nat
}

// unrank returns the tree that has a number of trees before it, or ErrRange.
func (n *counting) unrank(number api.Nat) (api.Tree, api.Errno) {
	for _, root := range n.roots {
		count := n.numbers.of(root)
		if natural.Compare(number, count) < 0 {
			return n.tree(share{&api.Kid{Node: root, Token: none}, number}), api.OK
		}
		number = difference(number, count)
	}
	return nil, api.ErrRange
}

// tree returns the tree of a share.
func (n *counting) tree(s share) api.Tree {
	var t api.Tree
	open := []share{s}
	for len(open) > 0 {
		s := open[len(open)-1]
		open = open[:len(open)-1]
		if s.kid.Node == none {
			t = append(t, api.Node{Production: none, Token: s.kid.Token, From: s.kid.From, To: s.kid.To})
			continue
		}
		node := &n.forest.Nodes[s.kid.Node]
		sums := n.sums.of(s.kid.Node)
		k := sort.Search(len(sums), func(k int) bool { return natural.Compare(s.number, sums[k]) < 0 })
		if k > 0 {
			s.number = difference(s.number, sums[k-1])
		}
		a := &node.Alternatives[k]
		t = append(t, api.Node{Production: a.Production, Token: none, From: node.From, To: node.To})
		for i := range slices.Backward(a.Kids) {
			kid := share{kid: &a.Kids[i]}
			if kid.kid.Node != none {
				s.number, kid.number = divided(s.number, n.numbers.of(kid.kid.Node))
			}
			open = append(open, kid)
		}
	}
	return t
}

// difference returns the difference of two numbers of which the first one is not less.
func difference(a, b api.Nat) api.Nat {
	if len(b) == 0 {
		return a
	}
	d, _ := natural.Sub(a, b)
	return d
}

// divided returns the quotient and the remainder of two numbers of which the second one is not 0.
func divided(a, b api.Nat) (api.Nat, api.Nat) {
	if natural.Compare(a, b) < 0 {
		return nil, a
	}
	if isOne(b) {
		return a, nil
	}
	quotient, remainder, _ := natural.Div(a, b)
	return quotient, remainder
}

// draw returns the first number less than that of all trees that is drawn from digits.
func (n *counting) draw(digits []uint32) (api.Nat, api.Errno) {
	if len(n.total) == 0 {
		return nil, api.ErrNone
	}
	last := difference(n.total, n.one)
	for len(digits) >= len(last) {
		limbs := slices.Clone(digits[:len(last)])
		digits = digits[len(last):]
		if number := cut(limbs, last); natural.Compare(number, last) <= 0 {
			return number, api.OK
		}
	}
	return nil, api.ErrRange
}

// cut returns the number of some limbs without the bits above those of a number with as many limbs.
func cut(limbs []uint32, like api.Nat) api.Nat {
	top := len(like) - 1
	if top >= 0 {
		limbs[top] &= 1<<bits.Len32(like[top]) - 1
	}
	for top >= 0 && limbs[top] == 0 {
		top--
	}
	return limbs[:top+1]
}
