package forest_test

import (
	"slices"
	"testing"

	"koine/api"
	"koine/diagram"
)

// expectPacked fails unless the functions return for a sound forest what the chapter says. Its sets depend on at most n conditions.
func expectPacked(t *testing.T, f api.Forest, n int) {
	t.Helper()
	if !isSound(f, n) {
		t.Fatalf("%v is not sound", f)
	}
	for c := range api.Config(1) << n {
		list := treesIn(packingsOf(f, c))
		if got, complete := trees(t, f, c, len(list)); !complete || !sameTrees(got, list) {
			t.Fatalf("%v has for configuration %d the trees %v, %v, want %v", f, c, got, complete, list)
		}
		most := len(list) / 2
		if got, complete := trees(t, f, c, most); complete != (most == len(list)) || !sameTrees(got, list[:most]) {
			t.Fatalf("%v has for configuration %d the first trees %v, %v, want those of %v", f, c, got, complete, list)
		}
		if got, want := selected(t, f, c), selectedOf(f, c); !sameForest(got, want) {
			t.Fatalf("%v has for configuration %d the part %v, want %v", f, c, got, want)
		}
	}
	uses := whereOf(f, n)
	for i, m := range f.Nodes {
		want := none()
		for j := range m.Alternatives {
			want = or(want, uses[use{i, j}])
		}
		if got := where(t, f, i); !diagram.Same(got, want) {
			t.Fatalf("node %d of %v is in trees of %v, want %v", i, f, got, want)
		}
	}
}

// forest returns a forest of a few nodes with random alternatives whose positions are consistent. It need not be sound. Its sets depend on n conditions.
func (g generator) forest(n int) api.Forest {
	var f api.Forest
	const gaps = 4
	for range 2 + g.IntN(9) {
		from := g.IntN(gaps)
		m := node(g.IntN(2), from, from+g.IntN(gaps-from))
		m.Copy = g.IntN(2)
		f.Nodes = append(f.Nodes, m)
	}
	compare := func(a, b api.ForestNode) int {
		return slices.Compare([]int{a.From, a.To, a.Left, a.Copy}, []int{b.From, b.To, b.Left, b.Copy})
	}
	slices.SortFunc(f.Nodes, compare)
	f.Nodes = slices.CompactFunc(f.Nodes, func(a, b api.ForestNode) bool { return compare(a, b) == 0 })
	wild := g.IntN(4) == 0
	for i := range f.Nodes {
		m := &f.Nodes[i]
		for range 1 + g.IntN(3) {
			if kids, ok := g.kids(f, i, wild); ok {
				m.Alternatives = append(m.Alternatives, alternative(g.some(n), g.IntN(2), kids...))
			}
		}
		slices.SortFunc(m.Alternatives, compareAlternatives)
		m.Alternatives = slices.CompactFunc(m.Alternatives, sameKids)
	}
	for i := range f.Nodes {
		if g.IntN(len(f.Nodes)) < 2 {
			f.Roots = append(f.Roots, root(i, g.some(n)))
		}
	}
	return f
}

// some returns a set of configurations of n conditions that is not empty.
func (g generator) some(n int) api.Diagram {
	if d := g.set(n); !diagram.Same(d, none()) {
		return d
	}
	return all()
}

// kids returns kids of a node, and whether some have been found. Unless they are wild, a kid between the same gaps comes behind the node.
func (g generator) kids(f api.Forest, node int, wild bool) ([]api.Kid, bool) {
	var list []api.Kid
	from, to := f.Nodes[node].From, f.Nodes[node].To
	at, apart := from, false
	for range 4 {
		if (at == to || apart && at < to) && g.IntN(3) == 0 {
			break
		}
		var next []api.Kid
		for i, m := range f.Nodes {
			if m.To <= to && (m.From == at || apart && m.From > at) && (wild || i > node || m.From > from || m.To < to) {
				next = append(next, kid(i, m.From, m.To))
			}
		}
		for begin := at; begin < to && (begin == at || apart); begin++ {
			for end := begin + 1; end <= to; end++ {
				next = append(next, leaf(g.IntN(2), begin, end))
			}
		}
		if len(next) == 0 {
			break
		}
		k := pick(g, next...)
		list = append(list, k)
		at, apart = k.To, k.Node < 0
	}
	return list, at == to || apart && at < to
}

// pruned returns a forest without the nodes that are not reached.
func pruned(f api.Forest) api.Forest {
	for !isReached(f) {
		reached := map[int]bool{}
		for _, r := range f.Roots {
			reached[r.Node] = true
		}
		for range f.Nodes {
			for i, n := range f.Nodes {
				for _, a := range n.Alternatives {
					for _, k := range a.Kids {
						reached[k.Node] = reached[k.Node] || reached[i]
					}
				}
			}
		}
		numbers := map[int]int{-1: -1}
		var x api.Forest
		for i, n := range f.Nodes {
			if reached[i] {
				numbers[i] = len(x.Nodes)
				x.Nodes = append(x.Nodes, n)
			}
		}
		for _, n := range x.Nodes {
			for _, a := range n.Alternatives {
				for j, k := range a.Kids {
					a.Kids[j].Node = numbers[k.Node]
				}
			}
		}
		for _, r := range f.Roots {
			x.Roots = append(x.Roots, root(numbers[r.Node], r.If))
		}
		f = x
	}
	return f
}

// fewTrees reports whether a sound forest has not more than most trees for each configuration of n conditions.
func fewTrees(f api.Forest, n, most int) bool {
	for c := range api.Config(1) << n {
		counts := map[int]int{}
		var count func(i int) int
		count = func(i int) int {
			if sum, ok := counts[i]; ok {
				return sum
			}
			sum := 0
			for _, a := range f.Nodes[i].Alternatives {
				product := 1
				for _, k := range a.Kids {
					if k.Node >= 0 && diagram.Holds(a.If, c) {
						product = min(product*count(k.Node), many)
					}
				}
				if diagram.Holds(a.If, c) {
					sum = min(sum+product, many)
				}
			}
			counts[i] = sum
			return sum
		}
		sum := 0
		for _, r := range f.Roots {
			if diagram.Holds(r.If, c) {
				sum += count(r.Node)
			}
		}
		if sum > most {
			return false
		}
	}
	return true
}

// K2 to K5: random forests, in which nodes have copies and there can be circles and nodes without trees.
func TestRandomForests(t *testing.T) {
	g := seeded(2)
	x := grammarOf(2, words("a", "b"), "S = a", "S = b")
	sound, circles, several, dead := 0, 0, 0, 0
	for range 6000 {
		f := pruned(g.forest(2))
		if !isSound(f, 2) {
			if nodesAreSound(f) && alternativesAreSound(f) && rootsAreSound(f) && isReached(f) {
				circles++
				expectUnsound(t, x, f, "a circle")
			}
			continue
		}
		if len(f.Nodes) == 0 || !fewTrees(f, 2, 100) {
			continue
		}
		sound++
		expectPacked(t, f, 2)
		for c := range api.Config(4) {
			if len(packingsOf(f, c)) > 3 {
				several++
			}
		}
		uses := whereOf(f, 2)
		for i, n := range f.Nodes {
			for j := range n.Alternatives {
				if _, ok := uses[use{i, j}]; !ok {
					dead++
				}
			}
		}
	}
	if sound < 2000 || circles < 1000 || several < 1000 || dead < 500 {
		t.Errorf("only %d sound forests, %d circles, %d configurations with several trees, %d alternatives that are in no tree", sound, circles, several, dead)
	}
}
