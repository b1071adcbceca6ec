package diagram

import "koine/api"

// A tuple is a number of each argument of an operation.
type tuple [3]int

// An operation decides whether a configuration is in the result, given whether it is in each argument.
type operation func(x, y, z bool) bool

// Results of a product that are not numbers: a result that is not constant, and one with too many branches.
const (
	open     = -1
	overflow = -2
)

// inside has, for each argument, the rows of a truth table in which the configuration is in this argument. Row r has the bits of r as its arguments.
var inside = [3]uint8{0b10101010, 0b11001100, 0b11110000}

// A product is a walk through up to three diagrams at once that makes the branches of an operation's result. It makes them in the order in which a walk of the result leaves them, and each one is reached from the result's root; so it can stop as soon as there are too many.
type product struct {
	arguments [3][]api.Branch
	sizes     [3]int
	truth     uint8
	limit     int
	made      table
	known     memory
}

// combine applies an operation to diagrams. It requires only that each branch has a greater number than its sides, and that three diagrams have the second and the third one from one list of branches (shared). It returns false if the result has more branches than the limit.
func combine(limit int, apply operation, arguments ...api.Diagram) (api.Diagram, bool) {
	p := product{limit: limit, sizes: [3]int{1, 1, 1}, truth: truthTable(apply)}
	root := tuple{}
	cells := 1
	for i, a := range arguments {
		p.arguments[i] = a.Nodes
		root[i] = a.Root
		p.sizes[i] = a.Root + 1
		cells *= p.sizes[i]
	}
	p.known = newMemory(cells)
	r := p.number(root)
	if r == overflow {
		return api.Diagram{}, false
	}
	return api.Diagram{Nodes: p.made.nodes, Root: r}, true
}

// truthTable returns the rows in which the operation holds.
func truthTable(apply operation) uint8 {
	var truth uint8
	for row := range 8 {
		if apply(row&1 != 0, row&2 != 0, row&4 != 0) {
			truth |= 1 << row
		}
	}
	return truth
}

// number returns the number that the operation's result for a tuple has among the branches made, or overflow.
func (p *product) number(x tuple) int {
	x, r := p.settle(x)
	if r != open {
		return r
	}
	cell := (x[0]*p.sizes[1]+x[1])*p.sizes[2] + x[2]
	if r, ok := p.known.get(cell); ok {
		return r
	}
	v, low, high := p.split(x)
	b := api.Branch{Var: v}
	if b.Low = p.number(low); b.Low == overflow {
		return overflow
	}
	if b.High = p.number(high); b.High == overflow {
		return overflow
	}
	r = b.Low
	if b.Low != b.High {
		r = p.made.number(b)
	}
	if len(p.made.nodes) > p.limit {
		return overflow
	}
	p.known.put(cell, r)
	return r
}

// settle returns the result for a tuple if the constants in it, or the equality of the last two numbers, decide it, or open. It puts 0 in the place of each argument that does not matter then, lest equal results be computed for each of its branches.
func (p *product) settle(x tuple) (tuple, int) {
	rows := uint8(0b11111111)
	for i, n := range x {
		switch n {
		case empty:
			rows &^= inside[i]
		case all:
			rows &= inside[i]
		}
	}
	if x[1] == x[2] {
		rows &^= inside[1] ^ inside[2]
	}
	switch p.truth & rows {
	case 0:
		return x, empty
	case rows:
		return x, all
	}
	for i, n := range x {
		with, without := p.truth&rows&inside[i], p.truth&rows&^inside[i]
		if n >= firstBranch && with>>(1<<i) == without {
			x[i] = empty
			rows &^= inside[i]
		}
	}
	return x, open
}

// split returns the least condition of a tuple's branches, and the tuples for its two values.
func (p *product) split(x tuple) (v int, low, high tuple) {
	v = api.MaxConditions
	for i, n := range x {
		if n >= firstBranch {
			v = min(v, p.arguments[i][n-firstBranch].Var)
		}
	}
	low, high = x, x
	for i, n := range x {
		if n < firstBranch {
			continue
		}
		if b := p.arguments[i][n-firstBranch]; b.Var == v {
			low[i], high[i] = b.Low, b.High
		}
	}
	return v, low, high
}
