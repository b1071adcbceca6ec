package grammar_test

import (
	"math"
	"math/rand/v2"
	"slices"
	"strconv"
	"testing"

	"koine/api"
	"koine/diagram"
	"koine/grammar"
	"koine/natural"
)

// ofFamily returns a grammar of n conditions with a family.
func ofFamily(n int, family api.Diagram) api.Grammar {
	g := plain()
	for i := range n {
		g.Conditions = append(g.Conditions, "C"+strconv.Itoa(i))
	}
	g.Family = family
	return g
}

// expectConfigs fails unless Configs returns a list, and whether it is complete.
func expectConfigs(t *testing.T, g api.Grammar, most int, want []api.Config, complete bool) {
	t.Helper()
	if l, ok := grammar.Configs(g, most); ok != complete || !slices.Equal(l, want) {
		t.Fatalf("Configs of %v, %d = %v, %v, want %v, %v", g.Family, most, l, ok, want, complete)
	}
}

// P5.1, E5: the chapter's examples and others.
func TestConfigsExamples(t *testing.T) {
	g := ofFamily(2, either(0))
	expectConfigs(t, g, 1, []api.Config{1}, false)
	expectConfigs(t, g, 2, []api.Config{1, 2}, false)
	expectConfigs(t, g, 3, []api.Config{1, 2, 3}, true)
	expectConfigs(t, g, 4, []api.Config{1, 2, 3}, true)
	expectConfigs(t, g, math.MaxInt, []api.Config{1, 2, 3}, true)
	for _, most := range []int{0, -1, math.MinInt} {
		expectConfigs(t, g, most, nil, false)
	}
	expectConfigs(t, plain(), 1, []api.Config{0}, true)
	expectConfigs(t, ofFamily(3, is(1)), 9, []api.Config{2, 3, 6, 7}, true)
	expectConfigs(t, ofFamily(1, is(1)), 9, nil, false) // not valid
	expectConfigs(t, ofFamily(1, none()), 9, nil, false)
	expectConfigs(t, api.Grammar{}, 9, nil, false)
}

// P5.1, P5.3, E5: exactly the configurations for which In holds, for every number of them.
func TestConfigsSmall(t *testing.T) {
	r := rand.New(rand.NewPCG(5, 7))
	for range 1000 {
		n := r.IntN(7)
		g := randomGrammar(r, n)
		var want []api.Config
		for c := range api.Config(1 << n) {
			if grammar.In(g, c) {
				want = append(want, c)
			}
		}
		argument := copyOf(g)
		for _, most := range []int{1, 2, len(want) - 1, len(want), len(want) + 1, 1 << n, math.MaxInt} {
			if most > 0 {
				expectConfigs(t, argument, most, want[:min(most, len(want))], most >= len(want))
			}
		}
		unchanged(t, argument, g)
		count := sure(diagram.Count(g.Family, n))
		if natural.Compare(count, natural.Of(uint64(len(want)))) != 0 {
			t.Fatalf("%d configurations, but Count says %s", len(want), natural.Text(count))
		}
	}
}

// P5.1, P5.3, E5: all families of three conditions, each of which may not matter.
func TestConfigsAllSets(t *testing.T) {
	for number := 1; number < 256; number++ {
		for _, vars := range [][3]int{{0, 1, 2}, {1, 2, 4}, {0, 3, 4}} {
			family := none()
			for j := range 8 {
				one := diagram.Constant(number>>j&1 == 1)
				for i, v := range vars {
					x := is(v)
					if j>>i&1 == 0 {
						x = sure(diagram.Not(x))
					}
					one = sure(diagram.And(one, x))
				}
				family = sure(diagram.Or(family, one))
			}
			var want []api.Config
			for c := range api.Config(32) {
				j := c>>vars[0]&1 | c>>vars[1]&1<<1 | c>>vars[2]&1<<2
				if number>>j&1 == 1 {
					want = append(want, c)
				}
			}
			expectConfigs(t, ofFamily(5, family), 100, want, true)
		}
	}
}

// least returns the least configurations of a set by dividing it, by the greatest condition first.
func least(d api.Diagram, n, most int) []api.Config {
	switch {
	case most <= 0 || diagram.Same(d, none()):
		return nil
	case n == 0:
		return []api.Config{0}
	}
	l := least(sure(diagram.Restrict(d, n-1, false)), n-1, most)
	for _, c := range least(sure(diagram.Restrict(d, n-1, true)), n-1, most-len(l)) {
		l = append(l, c|1<<(n-1))
	}
	return l
}

// P5.1, P5.3, E5: families of many conditions.
func TestConfigsLarge(t *testing.T) {
	r := rand.New(rand.NewPCG(5, 8))
	for i := range 300 {
		n := 1 + r.IntN(64)
		if i%3 == 0 {
			n = 64
		}
		family := none()
		for range 1 + r.IntN(6) {
			one := all()
			for range r.IntN(n) {
				x := is(r.IntN(n))
				if r.IntN(2) == 0 {
					x = sure(diagram.Not(x))
				}
				if y := sure(diagram.And(one, x)); !diagram.Same(y, none()) {
					one = y
				}
			}
			family = sure(diagram.Or(family, one))
		}
		want := least(family, n, 41)
		expectConfigs(t, ofFamily(n, family), 40, want[:min(40, len(want))], len(want) <= 40)
	}
}

// P5.1, E5: the greatest numbers.
func TestConfigsLast(t *testing.T) {
	last := all()
	for v := 1; v < 64; v++ {
		last = sure(diagram.And(last, is(v)))
	}
	const end = math.MaxUint64
	expectConfigs(t, ofFamily(64, last), 3, []api.Config{end - 1, end}, true)
	expectConfigs(t, ofFamily(64, last), 2, []api.Config{end - 1, end}, true)
	expectConfigs(t, ofFamily(64, last), 1, []api.Config{end - 1}, false)
	expectConfigs(t, ofFamily(64, sure(diagram.And(last, is(0)))), 1, []api.Config{end}, true)
	expectConfigs(t, ofFamily(64, all()), 3, []api.Config{0, 1, 2}, false)
	expectConfigs(t, ofFamily(64, is(63)), 2, []api.Config{1 << 63, 1<<63 + 1}, false)
	expectConfigs(t, ofFamily(63, is(62)), 2, []api.Config{1 << 62, 1<<62 + 1}, false)
}

// P5.1, E5: as many configurations as there are, and a family with many branches.
func TestConfigsMany(t *testing.T) {
	l, ok := grammar.Configs(ofFamily(16, all()), math.MaxInt)
	if len(l) != 1<<16 || !ok {
		t.Fatalf("%d configurations, %v", len(l), ok)
	}
	for i, c := range l {
		if c != api.Config(i) {
			t.Fatalf("configuration %d is %d", i, c)
		}
	}
	family := none()
	for i := range 11 {
		family = sure(diagram.Or(family, sure(diagram.And(is(i), is(50+i)))))
	}
	l, ok = grammar.Configs(ofFamily(64, family), api.MaxConfigs)
	if len(family.Nodes) != 4094 || len(l) != api.MaxConfigs || ok || !slices.Equal(l[:50], least(family, 64, 50)) || !slices.IsSorted(l) {
		t.Errorf("%d branches: %d configurations, %v", len(family.Nodes), len(l), ok)
	}
}
