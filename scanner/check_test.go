package scanner_test

import (
	"slices"
	"strings"
	"testing"

	"koine/api"
	"koine/diagram"
	"koine/scanner"
)

// checkedGrammar returns a grammar with two conditions and tokens of all classes.
func checkedGrammar() api.Grammar {
	g := grammarOf(2,
		token(api.Ordinary, "/[a-z][a-z]*/", all()),
		token(api.Ordinary, "if", set("B")),
		token(api.Layout, " ", all()),
		token(api.Remark, "#", all()),
		token(api.Remark, "##", set("A")),
		token(api.Ordinary, "z", all()),
	)
	g.Family = set("A || B")
	return g
}

// checkedScan returns a scan that is valid for checkedGrammar.
func checkedScan() api.Scan {
	return api.Scan{
		Lexemes: []api.Lexeme{
			lexeme(0, 1, 0, true, set("B"), 0),
			lexeme(0, 3, 0, true, set("A && !B"), 0),
			{From: 3, To: 5, Column: 3, If: set("B"), Choices: []api.Choice{{Token: 0, If: set("!A && B")}, {Token: 1, If: set("B")}}},
			{From: 9, To: 10, Column: 2, If: set("A")},
		},
		Remarks: []api.Lexeme{
			{From: 5, To: 7, Column: 5, If: set("A || B"), Choices: []api.Choice{{Token: 3, If: set("!A && B")}, {Token: 4, If: set("A")}}},
			lexeme(8, 10, 1, true, set("!A && B"), 3),
		},
		Good: set("A || B"),
		End:  10,
	}
}

// faulty returns a scan with three faults.
func faulty() api.Scan {
	return api.Scan{
		Lexemes: []api.Lexeme{},
		Faults:  []api.Fault{{At: 0, Cut: true, If: set("A && !B")}, {At: 9, If: set("A && B")}, {At: 9, Cut: true, If: set("B && !A")}},
		Good:    none(),
		End:     10,
	}
}

// A change makes another scan.
type change struct {
	name  string
	apply func(x *api.Scan)
}

// expectChanges fails unless each change of a scan makes it valid or not, as is said, also by the authority.
func expectChanges(t *testing.T, scan func() api.Scan, want api.Errno, changes ...change) {
	t.Helper()
	g := checkedGrammar()
	for _, c := range changes {
		x := scan()
		c.apply(&x)
		if e := check(t, g, x); e != want || isValid(g, x) != (want == api.OK) {
			t.Errorf("%s: error %d, want %d, valid: %v", c.name, e, want, isValid(g, x))
		}
	}
}

// P8.1, H4: scans that are valid, at the limits of the conditions.
func TestValid(t *testing.T) {
	expectChanges(t, checkedScan, api.OK,
		change{"none", func(x *api.Scan) {}},
		change{"nothing", func(x *api.Scan) { *x = api.Scan{Good: set("A || B")} }},
		change{"the greatest end", func(x *api.Scan) { x.End = api.MaxText }},
		change{"the greatest column", func(x *api.Scan) { x.Lexemes[3].Column = 9 }},
		change{"First", func(x *api.Scan) { x.Lexemes[3].First = true }},
		change{"no choices of a word", func(x *api.Scan) { x.Lexemes[0].Choices = nil }},
		change{"neighbors", func(x *api.Scan) { x.Lexemes[2].If, x.Lexemes[2].Choices = x.Good, nil }},
		change{"another last byte", func(x *api.Scan) { x.Lexemes[3].From, x.Lexemes[3].Column = 8, 8 }},
		change{"the same bytes as a remark", func(x *api.Scan) { x.Lexemes[3].From = 8 }},
	)
	expectChanges(t, faulty, api.OK,
		change{"none", func(x *api.Scan) {}},
		change{"fewer faults", func(x *api.Scan) { x.Faults, x.Good = x.Faults[:2], set("B && !A") }},
		change{"faults at the same place", func(x *api.Scan) { x.Faults[0].At, x.Faults[0].Cut = 8, false }},
		change{"a lexeme beside faults", func(x *api.Scan) {
			x.Faults, x.Good = x.Faults[:1], set("B")
			x.Lexemes = []api.Lexeme{lexeme(0, 10, 0, true, set("B"), 0)}
		}},
	)
}

// P8.1, H4: the conditions 1 and 2.
func TestInvalidFaults(t *testing.T) {
	expectChanges(t, checkedScan, api.ErrArg,
		change{"a negative end", func(x *api.Scan) { *x = api.Scan{Good: set("A || B"), End: -1} }},
		change{"a great end", func(x *api.Scan) { x.End = api.MaxText + 1 }},
		change{"more good ones", func(x *api.Scan) { x.Good = all() }},
		change{"fewer good ones", func(x *api.Scan) { x.Good = set("A") }},
		change{"invalid good ones", func(x *api.Scan) { x.Good = api.Diagram{Root: 1, Nodes: x.Good.Nodes} }},
	)
	expectChanges(t, faulty, api.ErrArg,
		change{"order", func(x *api.Scan) { x.Faults[1], x.Faults[2] = x.Faults[2], x.Faults[1] }},
		change{"order of offsets", func(x *api.Scan) { x.Faults[0].At, x.Faults[2].At = 9, 0; x.Faults[1].At = 5 }},
		change{"the same place", func(x *api.Scan) { x.Faults[1].Cut = true }},
		change{"the same place, stuck", func(x *api.Scan) { x.Faults[2].Cut = false }},
		change{"a negative offset", func(x *api.Scan) { x.Faults[0].At = -1 }},
		change{"the end as an offset", func(x *api.Scan) { x.Faults[2].At = 10 }},
		change{"an empty set", func(x *api.Scan) { x.Faults[0].If, x.Good = none(), set("A && !B") }},
		change{"a set that is not valid", func(x *api.Scan) { x.Faults[0].If.Root = 77 }},
		change{"another condition", func(x *api.Scan) { x.Faults[0].If, x.Good = set("A && !B && C"), set("A && !B && !C") }},
		change{"a configuration outside of the family", func(x *api.Scan) { x.Faults[0].If = set("!B") }},
		change{"a common configuration", func(x *api.Scan) { x.Faults[2].If = set("B") }},
		change{"a good one with a fault", func(x *api.Scan) { x.Good = set("A") }},
		change{"a missing fault", func(x *api.Scan) { x.Faults = x.Faults[1:] }},
	)
}

// P8.1, H4: the conditions 3 and 5.
func TestInvalidLexemes(t *testing.T) {
	expectChanges(t, checkedScan, api.ErrArg,
		change{"order of From", func(x *api.Scan) { slices.Reverse(x.Lexemes) }},
		change{"order of To", func(x *api.Scan) { x.Lexemes[0], x.Lexemes[1] = x.Lexemes[1], x.Lexemes[0] }},
		change{"order of remarks", func(x *api.Scan) { slices.Reverse(x.Remarks) }},
		change{"the same place", func(x *api.Scan) { x.Lexemes[0].To = 3 }},
		change{"From negative", func(x *api.Scan) { x.Lexemes[0].From = -1 }},
		change{"To is From", func(x *api.Scan) { x.Lexemes[3].To = 9 }},
		change{"To behind the end", func(x *api.Scan) { x.End = 9 }},
		change{"a negative column", func(x *api.Scan) { x.Lexemes[1].Column = -1 }},
		change{"a great column", func(x *api.Scan) { x.Lexemes[2].Column = 4 }},
		change{"a great column of a remark", func(x *api.Scan) { x.Remarks[0].Column = 6 }},
		change{"a set that is not valid", func(x *api.Scan) { x.Lexemes[3].If.Root = 1 }},
		change{"an empty set", func(x *api.Scan) { x.Lexemes[3].If = none() }},
		change{"an empty set of a remark", func(x *api.Scan) { x.Remarks[1].If, x.Remarks[1].Choices = none(), nil }},
		change{"another condition", func(x *api.Scan) { x.Lexemes[3].If = set("A && C") }},
		change{"a configuration that is not good", func(x *api.Scan) { x.Lexemes[3].If = set("A || !B"); x.Remarks = x.Remarks[:1] }},
		change{"common bytes of words", func(x *api.Scan) { x.Lexemes[1].If = set("A") }},
		change{"a common byte of words", func(x *api.Scan) { x.Lexemes[1].To = 4; x.Lexemes[1].If = set("A"); x.Lexemes = x.Lexemes[1:] }},
		change{"a common byte of a word and a remark", func(x *api.Scan) { x.Lexemes[2].To = 6 }},
		change{"a remark inside a word", func(x *api.Scan) { x.Lexemes[3].From, x.Lexemes[3].If = 7, set("B"); x.Lexemes[3].Column = 0 }},
		change{"the bytes of a word as a remark", func(x *api.Scan) { x.Remarks[1].From = 9; x.Lexemes[3].If = set("B") }},
		change{"common bytes with one that is not the last", func(x *api.Scan) {
			x.Remarks = nil
			x.Lexemes = []api.Lexeme{lexeme(0, 9, 0, true, set("A && B")), lexeme(1, 2, 0, true, set("A && !B")), lexeme(3, 4, 0, true, set("A"))}
		}},
	)
}

// P8.1, H4: the condition 4.
func TestInvalidChoices(t *testing.T) {
	expectChanges(t, checkedScan, api.ErrArg,
		change{"order", func(x *api.Scan) { slices.Reverse(x.Lexemes[2].Choices) }},
		change{"the same token", func(x *api.Scan) { x.Lexemes[2].Choices[1].Token = 0 }},
		change{"a negative token", func(x *api.Scan) { x.Lexemes[0].Choices[0].Token = -1 }},
		change{"no token", func(x *api.Scan) { x.Lexemes[0].Choices[0].Token = 6 }},
		change{"a layout token", func(x *api.Scan) { x.Lexemes[0].Choices[0].Token = 2 }},
		change{"a remark token of a word", func(x *api.Scan) { x.Lexemes[0].Choices[0].Token = 3 }},
		change{"an ordinary token of a remark", func(x *api.Scan) { x.Remarks[1].Choices[0].Token = 0 }},
		change{"a layout token of a remark", func(x *api.Scan) { x.Remarks[1].Choices[0].Token = 2 }},
		change{"a set that is not valid", func(x *api.Scan) { x.Lexemes[0].Choices[0].If.Root = -1 }},
		change{"an empty set", func(x *api.Scan) { x.Lexemes[0].Choices[0].If = none() }},
		change{"another condition", func(x *api.Scan) { x.Lexemes[0].Choices[0].If = set("B && C") }},
		change{"not a subset of the lexeme", func(x *api.Scan) { x.Lexemes[0].Choices[0].If = set("A || B") }},
		change{"not a subset of the token", func(x *api.Scan) { x.Lexemes[1].Choices[0].Token = 1 }},
		change{"choices of a remark with a common configuration", func(x *api.Scan) { x.Remarks[0].Choices[0].If = set("B") }},
		change{"choices of a remark with a gap", func(x *api.Scan) { x.Remarks[0].Choices[1].If = set("A && B") }},
		change{"no choices of a remark", func(x *api.Scan) { x.Remarks[0].Choices = nil }},
		change{"not a subset of a remark", func(x *api.Scan) { x.Remarks[1].Choices[0].If = set("!A || B") }},
	)
}

// P8.1, H4: the error of the grammar comes first.
func TestCheckErrors(t *testing.T) {
	bad := checkedGrammar()
	bad.Start = 1
	cyclic := checkedGrammar()
	cyclic.Productions = []api.Production{{Name: "p", Right: []api.Symbol{{Index: 0}}, If: all()}}
	for i, x := range []struct {
		g    api.Grammar
		scan api.Scan
		want api.Errno
	}{
		{bad, api.Scan{End: -1}, api.ErrSymbol},
		{cyclic, checkedScan(), api.ErrCycle},
		{checkedGrammar(), api.Scan{}, api.ErrArg},
	} {
		if e := check(t, x.g, x.scan); e != x.want {
			t.Errorf("case %d: error %d, want %d", i, e, x.want)
		}
	}
}

// mutate changes one of the numbers, sets or lists of a scan at random.
func (g generator) mutate(n int, x *api.Scan) {
	number := func(p *int) { *p = pick(g, *p-1, *p+1, 0, x.End, -1) }
	where := func(d *api.Diagram) {
		less, _ := diagram.And(*d, g.set(n))
		more, _ := diagram.Or(*d, g.set(n))
		*d = pick(g, none(), all(), x.Good, g.set(n), less, less, more, g.set(n+1), api.Diagram{Root: 5})
	}
	if g.IntN(8) == 0 {
		where(&x.Good)
	}
	if g.IntN(8) == 0 {
		number(&x.End)
	}
	if i := g.IntN(5); i < len(x.Faults) {
		f := &x.Faults[i]
		pick(g, func() { number(&f.At) }, func() { f.Cut = !f.Cut }, func() { where(&f.If) }, func() { x.Faults = slices.Delete(x.Faults, i, i+1) }, func() { f.If = none() })()
	}
	list := pick(g, &x.Lexemes, &x.Remarks)
	if len(*list) == 0 {
		return
	}
	i := g.IntN(len(*list))
	l := &(*list)[i]
	pick(g, func() { number(&l.From) }, func() { number(&l.To) }, func() { number(&l.Column) }, func() { l.First = !l.First }, func() { where(&l.If) },
		func() { *list = slices.Delete(*list, i, i+1) }, func() { *list = slices.Insert(*list, i, *l) }, func() { (*list)[0], *l = *l, (*list)[0] },
		func() { l.Choices = nil }, func() { x.Lexemes, x.Remarks = x.Remarks, x.Lexemes })()
	if i >= len(*list) || len((*list)[i].Choices) == 0 {
		return
	}
	choices := (*list)[i].Choices
	c := &choices[g.IntN(len(choices))]
	pick(g, func() { number(&c.Token) }, func() { where(&c.If) }, func() {}, func() {}, func() { choices[0], *c = *c, choices[0] })()
}

// P8.1, P8.6, H4: random scans.
func TestCheckRandom(t *testing.T) {
	g := seeded(4)
	valid := 0
	for range 4000 {
		n := g.IntN(4)
		x := g.grammar(n)
		s := goodScan(t, x, g.source(n, 4, 8))
		for range 4 {
			y := copyOf(s)
			g.mutate(n, &y)
			want := api.ErrArg
			if isValid(x, y) {
				want = api.OK
				valid++
			}
			if e := scanner.Check(x, y); e != want {
				t.Fatalf("%v for %v: error %d, want %d", y, x, e, want)
			}
		}
	}
	if valid < 1000 {
		t.Fatalf("only %d of the scans are valid", valid)
	}
}

// H4, P8.6: Check of a scan with very many lexemes, of which each configuration has its own ones.
func TestCheckMany(t *testing.T) {
	g := grammarOf(10, token(api.Ordinary, "/x*/", all()))
	x := api.Scan{Good: all(), End: 1 << 11}
	for i := range 1 << 10 {
		where := all()
		for v, name := range names(10) {
			if i>>v&1 == 0 {
				name = "!" + name
			}
			where = and(where, set(name))
		}
		x.Lexemes = append(x.Lexemes, lexeme(i, 1<<10+i, 0, true, where, 0))
	}
	if e := scanner.Check(g, x); e != api.OK {
		t.Fatalf("error %d", e)
	}
	x.Lexemes[1000].If = or(x.Lexemes[1000].If, x.Lexemes[3].If)
	if e := scanner.Check(g, x); e != api.ErrArg {
		t.Fatalf("common bytes: error %d", e)
	}
	many := api.Scan{Good: all(), End: api.MaxText}
	for i := range api.MaxText / 2 {
		many.Lexemes = append(many.Lexemes, api.Lexeme{From: 2 * i, To: 2*i + 1, If: all()})
		many.Remarks = append(many.Remarks, lexeme(2*i+1, 2*i+2, 0, false, all(), 1))
	}
	g.Tokens = append(g.Tokens, token(api.Remark, strings.Repeat("#", 3), all()))
	if e := scanner.Check(g, many); e != api.OK {
		t.Fatalf("very many lexemes: error %d", e)
	}
	many.Remarks[1<<18].From--
	if e := scanner.Check(g, many); e != api.ErrArg {
		t.Fatalf("very many lexemes, two with a common byte: error %d", e)
	}
}
