package chart_test

import (
	"testing"

	"koine/api"
	"koine/diagram"
)

// P10.1, J3: configurations that begin at different words, and at the end.
func TestStart(t *testing.T) {
	x := api.Scan{Good: set("A || B || C"), End: 9, Lexemes: []api.Lexeme{
		lexeme(1, 2, set("A && B")), lexeme(1, 3, set("A && !B")), lexeme(4, 5, set("A || B")), lexeme(5, 6, set("A")), lexeme(7, 8, set("B")),
	}}
	expectStart(t, x, span(-1, 1, 9, set("A")), span(-1, 4, 9, set("!A && B")), span(-1, 9, 9, set("!A && !B && C")))
	x.Good = set("A")
	expectStart(t, x, span(-1, 1, 9, set("A")))
	x.Lexemes = x.Lexemes[4:]
	expectStart(t, x, span(-1, 7, 9, set("A && B")), span(-1, 9, 9, set("A && !B")))
}

// J3: scans that are not valid, but whose sets are.
func TestStartOfInvalid(t *testing.T) {
	lexemes := []api.Lexeme{lexeme(6, 2, set("A")), lexeme(-4, -9, set("B")), lexeme(3, 4, all()), lexeme(3, 3, none()), lexeme(-5, 1, none()), lexeme(0, 9, set("C && !B"))}
	for end := -6; end < 8; end++ {
		x := api.Scan{Good: set("!A || C"), End: end, Lexemes: lexemes, Faults: []api.Fault{{If: api.Diagram{Root: 3}}}}
		expectStart(t, x, span(-1, -4, end, set("!A && B || B && C")), span(-1, 0, end, set("C && !B")), span(-1, 3, end, set("!A && !B && !C")))
		// The end can be before the beginnings, behind them, between them or one of them.
		x.Lexemes = lexemes[:2]
		x.Good = all()
		expectStart(t, x, startOf(2, x)...)
	}
	broken := api.Scan{Good: all(), End: 3, Lexemes: []api.Lexeme{{From: 1, If: all(), Choices: []api.Choice{{Token: -1, If: api.Diagram{Root: 9}}}}}, Remarks: []api.Lexeme{{If: api.Diagram{Root: 9}}}}
	expectStart(t, broken, span(-1, 1, 3, all()))
}

// tooLarge returns a set whose diagram has more than MaxBranches branches, although it is reduced and ordered.
func tooLarge() api.Diagram {
	// The conjunction of the equivalences of the conditions i and i+12 needs a branch for each combination of the first ones.
	var d api.Diagram
	numbers := map[api.Branch]int{}
	number := func(b api.Branch) int {
		if b.Low == b.High {
			return b.Low
		}
		n, ok := numbers[b]
		if !ok {
			d.Nodes = append(d.Nodes, b)
			n = len(d.Nodes) + 1
			numbers[b] = n
		}
		return n
	}
	var walk func(v, seen int) int
	walk = func(v, seen int) int {
		switch {
		case v < 12:
			low := walk(v+1, seen)
			return number(api.Branch{Var: v, Low: low, High: walk(v+1, seen|1<<v)})
		case v == 24:
			return 1
		case seen>>(v-12)&1 == 0:
			return number(api.Branch{Var: v, Low: walk(v+1, seen), High: 0})
		}
		return number(api.Branch{Var: v, Low: 0, High: walk(v+1, seen)})
	}
	d.Root = walk(0, 0)
	return d
}

// J3: sets that are not valid.
func TestStartErrors(t *testing.T) {
	large := tooLarge()
	if e := diagram.Check(large); e != api.ErrLarge {
		t.Fatalf("error %d", e)
	}
	twice := api.Diagram{Nodes: []api.Branch{{Var: 0, Low: 0, High: 1}, {Var: 0, Low: 1, High: 0}}, Root: 3}
	for i, bad := range []api.Diagram{{Root: 2}, {Root: -1}, {Nodes: set("A").Nodes, Root: 1}, {Nodes: []api.Branch{{Var: 64, High: 1}}, Root: 2}, twice, large} {
		for j, x := range []api.Scan{
			{Good: bad},
			{Good: bad, End: 3, Lexemes: []api.Lexeme{lexeme(0, 1, all())}},
			{Good: all(), End: 3, Lexemes: []api.Lexeme{lexeme(0, 1, bad)}},
			{Good: all(), End: 3, Lexemes: []api.Lexeme{lexeme(0, 1, all()), lexeme(1, 2, all()), lexeme(2, 3, bad)}},
			{Good: none(), End: 3, Lexemes: []api.Lexeme{lexeme(0, 1, all()), lexeme(2, 3, bad)}},
		} {
			if _, e := start(t, x); e != api.ErrArg {
				t.Errorf("set %d, scan %d: error %d, want %d", i, j, e, api.ErrArg)
			}
		}
	}
}

// J3: random lists of lexemes.
func TestStartRandom(t *testing.T) {
	g := seeded(2)
	for range 3000 {
		n := g.IntN(5)
		x := api.Scan{Good: g.set(n), End: g.IntN(12) - 2}
		for range g.IntN(8) {
			x.Lexemes = append(x.Lexemes, lexeme(g.IntN(12)-2, g.IntN(9), and(g.set(n), g.set(n))))
		}
		expectStart(t, x, startOf(n, x)...)
	}
}
