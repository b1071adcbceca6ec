package grammar

import "koine/api"

func (c *checker) filter(i int) api.Errno {
	f := c.Filters[i]
	return unless(c.fits(f.If) && c.declared(f), api.ErrFilter)
}

// declared reports whether a filter has a kind, and only the fields of this kind.
func (c *checker) declared(f api.Filter) bool {
	switch f.Kind {
	case api.FilterChild, api.FilterSpine:
		return f.Left == 0 && f.Token == 0 && len(f.Tokens) == 0 && c.nests(f)
	case api.FilterFollow, api.FilterPrecede:
		return f.Parent == 0 && f.At == 0 && f.Child == 0 && f.Token == 0 &&
			indexes(f.Left, c.Nonterminals) && listed(f.Tokens, c.ordinary)
	case api.FilterReserve:
		return f.Parent == 0 && f.At == 0 && f.Child == 0 && f.Left == 0 &&
			c.ordinary(f.Token) && !c.literal(f.Token) && listed(f.Tokens, c.literal)
	}
	return false
}

// nests reports whether a node of a filter's child can be a child of a node of its parent where the filter says.
func (c *checker) nests(f api.Filter) bool {
	if !indexes(f.Parent, c.Productions) || !indexes(f.Child, c.Productions) {
		return false
	}
	right := c.Productions[f.Parent].Right
	return indexes(f.At, right) && right[f.At] == api.Symbol{Index: c.Productions[f.Child].Left}
}

// literal reports whether i is the index of a token with a literal.
func (c *checker) literal(i int) bool {
	return indexes(i, c.Tokens) && c.Tokens[i].Literal != ""
}

// listed reports whether a list has at least one number, its numbers ascend, and all of them are allowed.
func listed(list []int, allowed func(i int) bool) bool {
	for i, n := range list {
		if i > 0 && n <= list[i-1] || !allowed(n) {
			return false
		}
	}
	return len(list) > 0
}
