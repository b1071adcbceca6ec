package formula_test

import (
	"math/rand/v2"
	"slices"
	"strings"
	"testing"

	"koine/api"
	"koine/formula"
)

// agreeParse fails unless Parse returns what the literal reading of the grammar returns.
func agreeParse(t *testing.T, names []string, s string) {
	t.Helper()
	want, error := parsed(names, s)
	f, e := formula.Parse(names, s)
	expect(t, "Parse of "+s, f, e, want, error)
}

// P3.1, C2: all sequences of up to six tokens.
func TestParseSmall(t *testing.T) {
	vocabulary := []string{"A", "B", "true", "!", "&&", "||", "(", ")"}
	var extend func(s string, more int)
	extend = func(s string, more int) {
		agreeParse(t, abc(), s)
		if more == 0 {
			return
		}
		for _, token := range vocabulary {
			extend(s+" "+token, more-1)
		}
	}
	extend("", 6)
}

// P3.1, C2: random strings of the characters of expressions, and of others.
func TestParseRandom(t *testing.T) {
	r := rand.New(rand.NewPCG(3, 4))
	pieces := []string{"A", "B", "C", "D", "A", "B", "!", "&&", "||", "&&", "||", "(", ")", "&", "|", "true", "false", "_", "1", " ", "\t", "\n", "\r", "é", "\x00", "-", "="}
	accepted := 0
	for i := range 300000 {
		s := ""
		// Half of the strings have only the first pieces, lest hardly any be an expression.
		few := 13 + i%2*(len(pieces)-13)
		for range r.IntN(10) {
			s += pieces[r.IntN(few)]
		}
		agreeParse(t, abc(), s)
		if _, e := formula.Parse(abc(), s); e == api.OK {
			accepted++
		}
	}
	if accepted < 3000 {
		t.Errorf("only %d expressions", accepted)
	}
}

// P3.1, C2: operators of the same kind are grouped from the left, and of different kinds by how tightly they bind.
func TestParseGroups(t *testing.T) {
	a, b, c := variable(0), variable(1), variable(2)
	for s, x := range map[string]*expr{
		"A && B && C":             and(and(a, b), c),
		"A && (B && C)":           and(a, and(b, c)),
		"A || B || C":             or(or(a, b), c),
		"A || (B || C)":           or(a, or(b, c)),
		"A || B && C":             or(a, and(b, c)),
		"A && B || C":             or(and(a, b), c),
		"(A || B) && C":           and(or(a, b), c),
		"A && (B || C)":           and(a, or(b, c)),
		"!A || B":                 or(not(a), b),
		"!A && !B":                and(not(a), not(b)),
		"!!A":                     not(not(a)),
		"!(A && B)":               not(and(a, b)),
		"!(A) && B":               and(not(a), b),
		"!((!((A))))":             not(not(a)),
		"A || !B && C || A":       or(or(a, and(not(b), c)), a),
		"A && B && C || A && B":   or(and(and(a, b), c), and(a, b)),
		"A || B && C && A":        or(a, and(and(b, c), a)),
		"true":                    constant(true),
		"false || true":           or(constant(false), constant(true)),
		"!true&&!false":           and(not(constant(true)), not(constant(false))),
		"A&&B||C":                 or(and(a, b), c),
		"\t(A)||\t(B)  &&\t!C\t ": or(a, and(b, not(c))),
	} {
		f, e := formula.Parse(abc(), s)
		expect(t, "Parse of "+s, f, e, x.postorder(), api.OK)
	}
}

// P3.1, C2: words extend as far as possible.
func TestParseWords(t *testing.T) {
	names := []string{"A", "AA", "_", "__", "_1", "A1", "a", "True", "truey", "true1", "_true", "falsefalse", "z9_Z"}
	for i, name := range names {
		f, e := formula.Parse(names, name)
		expect(t, "Parse of "+name, f, e, variable(i).postorder(), api.OK)
	}
	f, e := formula.Parse(names, "true")
	expect(t, "Parse of true", f, e, constant(true).postorder(), api.OK)
	for _, s := range []string{"AAA", "A_", "A2", "TRUE", "tru", "truefalse", "true_", "false0", "b", "Aa", "z9_"} {
		f, e := formula.Parse(names, s)
		expect(t, "Parse of "+s, f, e, nil, api.ErrNone)
	}
	for _, s := range []string{"A A", "true false", "1", "1A", "A 1", "_ _", "true A"} {
		f, e := formula.Parse(names, s)
		expect(t, "Parse of "+s, f, e, nil, api.ErrSyntax)
	}
}

// P3.1, C2: what is no expression.
func TestParseSyntax(t *testing.T) {
	for _, s := range []string{
		"", " ", "\t", "!", "&&", "||", "(", ")", "()", "( )", "A &&", "&& A", "A ||", "|| A", "A !", "A ! B", "A B", "(A", "A)", "(A))", "((A)", ")A(", "(A)(B)", "(A) B", "A (B)", "A && && B", "A || && B", "A && || B", "A !&& B", "!)", "(!)", "(A &&)", "(&& A)",
		"A & B", "A & & B", "A | B", "A | | B", "A &&& B", "A ||| B", "A &", "A |", "&A", "A && B |", "A &&", "A and B", "not A", "~A", "A == B", "A != B", "!=A", "A ? B", "A^B", "A,B", "0", "1 && A", "A.B", "$A", "#A", "A;", "\"A\"", "'A'", "[A]", "{A}",
		"A\n", "\nA", "A &&\nB", "A\r", "A\v&& B", "A\f&& B", "A\x00", "\x00", "A\u00a0&& B", "A\u2003", "É", "AÉ", "A && É", "\xff", "A\xff", "A \x80 B",
	} {
		f, e := formula.Parse(abc(), s)
		expect(t, "Parse of "+s, f, e, nil, api.ErrSyntax)
	}
}

// P3.1, C2 and C3, C7: name lists.
func TestNames(t *testing.T) {
	one := variable(0).postorder()
	for _, names := range badNames() {
		for _, s := range []string{"A", "true", "", "A &&", "D", strings.Repeat("!", 600) + "A"} {
			f, e := formula.Parse(names, s)
			expect(t, "Parse of "+s, f, e, nil, api.ErrArg)
		}
		for _, f := range append(brokenFormulas(), one) {
			s, e := formula.Print(names, f)
			expectText(t, "Print", s, e, "", api.ErrArg)
		}
		for _, d := range []api.Diagram{{}, {Root: 1}, {Root: 7}, {Nodes: make([]api.Branch, 5000)}} {
			s, e := formula.Text(names, d)
			expectText(t, "Text", s, e, "", api.ErrArg)
		}
	}
	for _, names := range [][]string{{"A"}, {"_"}, {"A", "a"}, {"True", "False", "TRUE"}, {"true1", "_false"}, {"x1", "x2", "x_"}, {strings.Repeat("long", 10000)}, many()} {
		for i, name := range names {
			f, e := formula.Parse(names, name)
			expect(t, "Parse of "+name, f, e, variable(i).postorder(), api.OK)
			s, e := formula.Print(names, variable(i).postorder())
			expectText(t, "Print", s, e, name, api.OK)
		}
	}
	for _, names := range [][]string{nil, {}} {
		f, e := formula.Parse(names, "!true")
		expect(t, "Parse without names", f, e, not(constant(true)).postorder(), api.OK)
		f, e = formula.Parse(names, "A")
		expect(t, "Parse without names", f, e, nil, api.ErrNone)
		s, e := formula.Print(names, constant(false).postorder())
		expectText(t, "Print without names", s, e, "false", api.OK)
		s, e = formula.Text(names, api.Diagram{Root: 1})
		expectText(t, "Text without names", s, e, "true", api.OK)
	}
}

// P3.1, C2, R9: a formula has at most MaxNodes nodes, whatever else the expression has.
func TestParseLimit(t *testing.T) {
	most := chain(api.MaxNodes)
	f, e := formula.Parse(abc(), strings.Repeat("!", api.MaxNodes-1)+"A")
	expect(t, "Parse of 511 signs", f, e, most, api.OK)
	f, e = formula.Parse(abc(), strings.Repeat(" (", 5000)+strings.Repeat("( !", api.MaxNodes-1)+"A"+strings.Repeat(") ", 5000+api.MaxNodes-1))
	expect(t, "Parse of many parentheses", f, e, most, api.OK)
	f, e = formula.Parse(abc(), strings.Repeat("!", api.MaxNodes)+"A")
	expect(t, "Parse of 512 signs", f, e, nil, api.ErrLarge)
	for _, operator := range []string{"&&", "||"} {
		f, e = formula.Parse(abc(), "!A"+strings.Repeat(operator+"A", 255))
		if e != api.OK || len(f) != api.MaxNodes || formula.Check(f) != api.OK {
			t.Errorf("Parse of 256 operands: %d nodes, %v", len(f), e)
		}
		f, e = formula.Parse(abc(), "A"+strings.Repeat(operator+"A", 256))
		expect(t, "Parse of 257 operands", f, e, nil, api.ErrLarge)
		f, e = formula.Parse(abc(), strings.Repeat("(A"+operator, 255)+"!A"+strings.Repeat(")", 255))
		if e != api.OK || len(f) != api.MaxNodes || formula.Check(f) != api.OK {
			t.Errorf("Parse of 256 nested operands: %d nodes, %v", len(f), e)
		}
		f, e = formula.Parse(abc(), strings.Repeat("(A"+operator, 256)+"A"+strings.Repeat(")", 256))
		expect(t, "Parse of 257 nested operands", f, e, nil, api.ErrLarge)
	}
}

// P3.1, C2, R4: the errors in their order, wherever in the string they are.
func TestParseErrorOrder(t *testing.T) {
	large := strings.Repeat("!", 600) + "A"
	for s, want := range map[string]api.Errno{
		"D && D":               api.ErrNone,
		"D && ":                api.ErrSyntax,
		"D D":                  api.ErrSyntax,
		"D || (A":              api.ErrSyntax,
		"D || $":               api.ErrSyntax,
		large + " && D":        api.ErrNone,
		"D && " + large:        api.ErrNone,
		large + " &&":          api.ErrSyntax,
		large + ")":            api.ErrSyntax,
		"(" + large:            api.ErrSyntax,
		large + " && D && ":    api.ErrSyntax,
		"D && " + large + " $": api.ErrSyntax,
		large + " && " + large: api.ErrLarge,
	} {
		f, e := formula.Parse(abc(), s)
		expect(t, "Parse of "+s, f, e, nil, want)
	}
}

// R1: no depth of nesting is too great.
func TestParseDeep(t *testing.T) {
	const deep, many = 1 << 22, 1 << 16
	open, closed := strings.Repeat("(", deep), strings.Repeat(")", deep)
	f, e := formula.Parse(abc(), open+"A"+closed)
	expect(t, "Parse of nested parentheses", f, e, variable(0).postorder(), api.OK)
	for s, want := range map[string]api.Errno{
		open:                            api.ErrSyntax,
		closed:                          api.ErrSyntax,
		open + "A" + closed + ")":       api.ErrSyntax,
		strings.Repeat("!", deep) + "A": api.ErrLarge,
		strings.Repeat("!", many):       api.ErrSyntax,
		strings.Repeat("!(", many):      api.ErrSyntax,
		strings.Repeat("!(", many) + "A" + closed[:many]:   api.ErrLarge,
		strings.Repeat("A&&(", many) + "A":                 api.ErrSyntax,
		strings.Repeat("A&&(", many) + "A" + closed[:many]: api.ErrLarge,
		strings.Repeat("A||(", many) + "D" + closed[:many]: api.ErrNone,
		strings.Repeat("A&&", many) + "A":                  api.ErrLarge,
		strings.Repeat("A", many):                          api.ErrNone,
		strings.Repeat(" ", many):                          api.ErrSyntax,
		strings.Repeat(" ", many) + "A":                    api.OK,
		"A" + strings.Repeat("\t", many):                   api.OK,
	} {
		if f, e := formula.Parse(abc(), s); e != want || e != api.OK && len(f) != 0 {
			t.Errorf("Parse of %d bytes, %.12q: %d nodes, %v", len(s), s, len(f), e)
		}
	}
}

// P3.3: spaces and tabs between tokens do not change the result, also if there is none.
func TestSpaces(t *testing.T) {
	r := rand.New(rand.NewPCG(3, 5))
	space := func() string {
		return []string{"", "", " ", "\t", "  ", " \t ", "\t\t"}[r.IntN(7)]
	}
	for range 20000 {
		x := random(r, 1+r.IntN(14), []int{0, 1, 2})
		printed := x.text(abc())
		l, _ := tokens(printed)
		tight, loose := "", space()
		for _, token := range l {
			tight += token
			loose += token + space()
		}
		for _, s := range []string{printed, tight, loose} {
			f, e := formula.Parse(abc(), s)
			expect(t, "Parse of "+s, f, e, x.postorder(), api.OK)
		}
		// A sequence that is no expression stays one that is none.
		i := r.IntN(len(l))
		l = slices.Delete(l, i, i+1)
		spaced := space() + strings.Join(l, " "+space()) + space()
		agreeParse(t, abc(), spaced)
	}
}

// P3.3: a space inside a token makes two of it.
func TestSpacesInside(t *testing.T) {
	names := []string{"AB", "A", "B"}
	for _, s := range []string{"A B", "A & & B", "A | | B", "t rue", "A\tB"} {
		f, e := formula.Parse(names, s)
		expect(t, "Parse of "+s, f, e, nil, api.ErrSyntax)
	}
}
