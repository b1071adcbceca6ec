// Package sets computes with many sets of configurations that have much in common. All their branches are in one list: equal sets have equal numbers, and what is known of a part of one set is known of the same part of all others. It is no layer; several layers use it.
package sets

import (
	"math/bits"

	"koine/api"
)

// The numbers of the constant sets.
const (
	Nothing    = 0
	Everything = 1
)

// fewConditions is the number of conditions up to which no diagram has more than MaxBranches branches.
const fewConditions = 14

// Numbers gives sets their numbers. It keeps the first error in E; a result that has an error is Nothing, so a computation need look for errors only where it could not end otherwise, and at its own end.
type Numbers struct {
	E          api.Errno
	branches   []branch // by numbers; those of the constant sets are none
	numbers    map[branch]int32
	conditions uint64 // a bit for each condition of a branch
	results    cache
	most       int            // the number of branches that there can be while an operation is computed
	fitting    map[int32]bool // sets whose diagrams are not too large, if there are many conditions
	visits     []visit        // by numbers, as far as a walk has needed them
	walks      int32
	order      []int32 // the branches that the last walk has left
}

// A branch is one of a diagram, with the numbers of the two sets to which it leads.
type branch struct{ condition, low, high int32 }

// constant is the condition of the constant sets, which is greater than those of branches.
const constant = api.MaxConditions

// New returns Numbers in which only the constant sets have numbers.
func New() *Numbers {
	return &Numbers{
		branches: []branch{Nothing: {condition: constant}, Everything: {condition: constant}},
		numbers:  map[branch]int32{},
		fitting:  map[int32]bool{},
		results:  newCache(),
	}
}

// Number returns the number of a valid set.
func (n *Numbers) Number(d api.Diagram) int {
	if len(d.Nodes) == 0 {
		return d.Root
	}
	numbers := make([]int32, len(d.Nodes)+2)
	numbers[Everything] = Everything
	for i, b := range d.Nodes {
		n.conditions |= 1 << b.Var
		numbers[i+2] = n.branch(branch{int32(b.Var), numbers[b.Low], numbers[b.High]})
	}
	return int(numbers[d.Root])
}

// branch returns the number of the set of a branch.
func (n *Numbers) branch(b branch) int32 {
	number, ok := n.numbers[b]
	if !ok {
		number = int32(len(n.branches))
		n.branches = append(n.branches, b)
		n.numbers[b] = number
	}
	return number
}

// Diagram returns a set in new memory.
func (n *Numbers) Diagram(a int) api.Diagram {
	if a <= Everything {
		return api.Diagram{Root: a}
	}
	n.walk(int32(a), len(n.branches))
	nodes := make([]api.Branch, len(n.order))
	for i, number := range n.order {
		b := n.branches[number]
		nodes[i] = api.Branch{Var: int(b.condition), Low: n.place(b.low), High: n.place(b.high)}
	}
	return api.Diagram{Nodes: nodes, Root: n.place(int32(a))}
}

// place returns the number that a set has in the diagram of the last walk.
func (n *Numbers) place(number int32) int {
	if number <= Everything {
		return int(number)
	}
	return int(n.visits[number].place)
}

// A visit is the last walk in which a branch was visited, and its number in the diagram of this walk.
type visit struct{ walk, place int32 }

// walk visits the branches of a set, and orders them as its diagram does. It reports whether there are not more than most.
func (n *Numbers) walk(a int32, most int) bool {
	if missing := len(n.branches) - len(n.visits); missing > 0 {
		n.visits = append(n.visits, make([]visit, missing)...)
	}
	n.walks++
	n.order = n.order[:0]
	return n.enter(a, most)
}

// enter goes on with a walk through the branches of a set.
func (n *Numbers) enter(number int32, most int) bool {
	if number <= Everything || n.visits[number].walk == n.walks {
		return true
	}
	b := n.branches[number]
	if !n.enter(b.low, most) || !n.enter(b.high, most) || len(n.order) == most {
		return false
	}
	n.order = append(n.order, number)
	n.visits[number] = visit{n.walks, int32(len(n.order) + 1)}
	return true
}

// fits reports whether the diagram of a set is not too large.
func (n *Numbers) fits(a int32) bool {
	if bits.OnesCount64(n.conditions) <= fewConditions || n.fitting[a] {
		return true
	}
	if !n.walk(a, api.MaxBranches) {
		return false
	}
	n.fitting[a] = true
	return true
}
