package diagram_test

import (
	"math/rand/v2"
	"slices"
	"strings"
	"testing"

	"koine/api"
	"koine/diagram"
)

// The tests take sets of configurations over a few conditions as the authority: table[j] says whether the set has the configurations in which condition vars[i] has the value of bit i of j.

// diagramOf returns the valid diagram of a set, by the definition: one branch for each function that a walk meets and that depends on its first condition.
func diagramOf(vars []int, table []bool) api.Diagram {
	d := api.Diagram{}
	left := map[string]int{}
	var walk func(depth int, table []bool) int
	walk = func(depth int, table []bool) int {
		if !slices.Contains(table, !table[0]) {
			return bit(table[0])
		}
		low, high := halves(table)
		if slices.Equal(low, high) {
			return walk(depth+1, low)
		}
		key := strings.Repeat(" ", depth) + spell(table)
		if n, ok := left[key]; ok {
			return n
		}
		b := api.Branch{Var: vars[depth], Low: walk(depth+1, low), High: walk(depth+1, high)}
		d.Nodes = append(d.Nodes, b)
		left[key] = len(d.Nodes) + 1
		return left[key]
	}
	d.Root = walk(0, table)
	return d
}

// halves returns the tables for the two values of the first condition.
func halves(table []bool) (low, high []bool) {
	for j := 0; j < len(table); j += 2 {
		low = append(low, table[j])
		if j+1 < len(table) {
			high = append(high, table[j+1])
		}
	}
	return low, high
}

func spell(table []bool) string {
	s := make([]byte, len(table))
	for i, in := range table {
		s[i] = byte('0' + bit(in))
	}
	return string(s)
}

func bit(value bool) int {
	if value {
		return 1
	}
	return 0
}

// numbered returns the table of n conditions whose entries are the bits of a number.
func numbered(n int, number uint64) []bool {
	table := make([]bool, 1<<n)
	for j := range table {
		table[j] = number>>j&1 == 1
	}
	return table
}

// randomTable returns a table of n conditions, in which about share of 8 entries are true.
func randomTable(r *rand.Rand, n, share int) []bool {
	table := make([]bool, 1<<n)
	for j := range table {
		table[j] = r.IntN(8) < share
	}
	return table
}

// randomVars returns n conditions in ascending order.
func randomVars(r *rand.Rand, n int) []int {
	vars := r.Perm(api.MaxConditions)[:n]
	slices.Sort(vars)
	return vars
}

// random returns a set over a few of all conditions.
func random(r *rand.Rand) api.Diagram {
	n := r.IntN(7)
	return diagramOf(randomVars(r, n), randomTable(r, n, r.IntN(9)))
}

// config returns the configuration in which condition vars[i] has the value of bit i of j, and every other condition the value rest.
func config(vars []int, j int, rest bool) api.Config {
	var c api.Config
	if rest {
		c = ^c
	}
	for i, v := range vars {
		c &^= 1 << v
		c |= api.Config(j>>i&1) << v
	}
	return c
}

// valid says whether a diagram is valid by the chapter's definition, read literally.
func valid(d api.Diagram) bool {
	number := func(n int) bool { return n >= 0 && n < len(d.Nodes)+2 }
	if len(d.Nodes) > api.MaxBranches || !number(d.Root) {
		return false
	}
	equal := map[api.Branch]bool{}
	for _, b := range d.Nodes {
		if b.Var < 0 || b.Var > 63 || !number(b.Low) || !number(b.High) || b.Low == b.High || equal[b] {
			return false
		}
		equal[b] = true
		for _, side := range []int{b.Low, b.High} {
			if side >= 2 && d.Nodes[side-2].Var <= b.Var {
				return false
			}
		}
	}
	var order []int
	var walk func(n int)
	walk = func(n int) {
		if n < 2 || slices.Contains(order, n) {
			return
		}
		walk(d.Nodes[n-2].Low)
		walk(d.Nodes[n-2].High)
		order = append(order, n)
	}
	walk(d.Root)
	for i, n := range order {
		if n != i+2 {
			return false
		}
	}
	return len(order) == len(d.Nodes)
}

// expect fails unless a call has succeeded with the diagram wanted.
func expect(t *testing.T, name string, want api.Diagram, got api.Diagram, e api.Errno) {
	t.Helper()
	if e != api.OK || !same(got, want) {
		t.Fatalf("%s = %v, %v, want %v", name, got, e, want)
	}
}

// refuse fails unless a call has failed with this error and without a result.
func refuse(t *testing.T, name string, want api.Errno, got api.Diagram, e api.Errno) {
	t.Helper()
	if e != want || got.Root != 0 || len(got.Nodes) != 0 {
		t.Fatalf("%s = %v, %v, want %v", name, got, e, want)
	}
}

// same compares diagrams without the package's help.
func same(a, b api.Diagram) bool { return a.Root == b.Root && slices.Equal(a.Nodes, b.Nodes) }

// must returns the diagram of a call that cannot fail.
func must(t *testing.T) func(d api.Diagram, e api.Errno) api.Diagram {
	return func(d api.Diagram, e api.Errno) api.Diagram {
		t.Helper()
		if e != api.OK {
			t.Fatalf("error %v", e)
		}
		return d
	}
}

// pairs returns the union, over i less than n, of the sets in which the conditions first+i and second(i) are both true. If all first ones are less than all second ones, it has 2^(n+1) - 2 branches.
func pairs(t *testing.T, n, first int, second func(i int) int) api.Diagram {
	t.Helper()
	m := must(t)
	d := diagram.Constant(false)
	for i := range n {
		d = m(diagram.Or(d, m(diagram.And(m(diagram.Var(first+i)), m(diagram.Var(second(i)))))))
	}
	return d
}

// straight and crossed are two sets with 2046 branches each whose intersection and union have more than MaxBranches.
func straight(t *testing.T) api.Diagram {
	return pairs(t, 10, 0, func(i int) int { return 20 + i })
}

func crossed(t *testing.T) api.Diagram {
	return pairs(t, 10, 10, func(i int) int { return 30 + 7*i%10 })
}

// full returns a set with exactly MaxBranches branches, whose conditions are less than 24.
func full(t *testing.T) api.Diagram {
	m := must(t)
	d := pairs(t, 11, 0, func(i int) int { return 11 + i })
	d = m(diagram.And(d, m(diagram.Var(22))))
	d = m(diagram.And(d, m(diagram.Var(23))))
	if len(d.Nodes) != api.MaxBranches {
		t.Fatalf("%d branches", len(d.Nodes))
	}
	return d
}

// large returns a diagram with one branch too many, which is valid but for that.
func large(t *testing.T) api.Diagram {
	d := full(t)
	d.Nodes = append(d.Nodes, api.Branch{})
	copy(d.Nodes[1:], d.Nodes)
	for i, b := range d.Nodes {
		d.Nodes[i] = api.Branch{Var: b.Var, Low: moved(b.Low), High: moved(b.High)}
	}
	d.Nodes[0] = api.Branch{Var: 63, Low: 0, High: 1}
	d.Root++
	return d
}

// moved returns the number of a branch before which another one is put; the set all becomes this other branch.
func moved(n int) int {
	if n == 0 {
		return 0
	}
	return n + 1
}

// broken are diagrams that are not valid, each for a reason of its own.
func broken() []api.Diagram {
	return []api.Diagram{
		{Root: -1},
		{Root: 2},
		{Root: -1 << 63},
		{Root: 1<<63 - 1},
		{Nodes: []api.Branch{{Var: 0, Low: 0, High: 0}}, Root: 2},
		{Nodes: []api.Branch{{Var: 0, Low: 1, High: 1}}, Root: 2},
		{Nodes: []api.Branch{{Var: 0, Low: 0, High: 1}}, Root: 0},
		{Nodes: []api.Branch{{Var: 0, Low: 0, High: 1}}, Root: 1},
		{Nodes: []api.Branch{{Var: 0, Low: 0, High: 1}}, Root: 3},
		{Nodes: []api.Branch{{Var: -1, Low: 0, High: 1}}, Root: 2},
		{Nodes: []api.Branch{{Var: 64, Low: 0, High: 1}}, Root: 2},
		{Nodes: []api.Branch{{Var: 0, Low: -1, High: 1}}, Root: 2},
		{Nodes: []api.Branch{{Var: 0, Low: 0, High: -1 << 63}}, Root: 2},
		{Nodes: []api.Branch{{Var: 0, Low: 0, High: 2}}, Root: 2},
		{Nodes: []api.Branch{{Var: 0, Low: 1<<63 - 1, High: 1}}, Root: 2},
		{Nodes: []api.Branch{{Var: 0, Low: 0, High: 3}, {Var: 1, Low: 0, High: 1}}, Root: 2},
		{Nodes: []api.Branch{{Var: 1, Low: 0, High: 1}, {Var: 1, Low: 0, High: 2}}, Root: 3},
		{Nodes: []api.Branch{{Var: 1, Low: 0, High: 1}, {Var: 2, Low: 0, High: 2}}, Root: 3},
		{Nodes: []api.Branch{{Var: 1, Low: 0, High: 1}, {Var: 1, Low: 0, High: 1}, {Var: 0, Low: 2, High: 3}}, Root: 4},
		{Nodes: []api.Branch{{Var: 1, Low: 1, High: 0}, {Var: 1, Low: 0, High: 1}, {Var: 0, Low: 3, High: 2}}, Root: 4},
		{Nodes: []api.Branch{{Var: 1, Low: 0, High: 1}, {Var: 0, Low: 0, High: 1}}, Root: 3},
		{Nodes: []api.Branch{{Var: 1, Low: 0, High: 1}, {Var: 0, Low: 0, High: 2}}, Root: 2},
	}
}
