package priority

import (
	"koine/api"
	"koine/diagram"
)

// A position is one in the right side of a production.
type position struct{ production, at int }

// A bound forbids a production on the right spine of a child: it is the conflict with a number.
type bound struct{ production, rule int }

// Rules are the conflicts of one configuration, with their numbers.
type rules struct {
	child map[clash]int
	spine map[position][]bound
}

func newRules(conflicts []api.Filter, c api.Config) rules {
	r := rules{map[clash]int{}, map[position][]bound{}}
	for i, f := range conflicts {
		switch {
		case !diagram.Holds(f.If, c):
		case f.Kind == api.FilterChild:
			r.child[clash{f.Kind, f.Parent, f.At, f.Child}] = i
		default:
			at := position{f.Parent, f.At}
			r.spine[at] = append(r.spine[at], bound{f.Child, i})
		}
	}
	return r
}
