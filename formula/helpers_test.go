package formula_test

import (
	"math/rand/v2"
	"regexp"
	"slices"
	"strings"
	"testing"

	"koine/api"
	"koine/diagram"
	"koine/formula"
)

// An expr is a formula as a tree. The tests take it as the authority: its postorder, its value and its text are written down by the chapter's definitions.
type expr struct {
	op, variable int
	a, b         *expr
}

func constant(value bool) *expr {
	if value {
		return &expr{op: api.OpTrue}
	}
	return &expr{op: api.OpFalse}
}

func variable(v int) *expr   { return &expr{op: api.OpVar, variable: v} }
func not(a *expr) *expr      { return &expr{op: api.OpNot, a: a} }
func and(a, b *expr) *expr   { return &expr{op: api.OpAnd, a: a, b: b} }
func or(a, b *expr) *expr    { return &expr{op: api.OpOr, a: a, b: b} }
func (x *expr) binary() bool { return x.op == api.OpAnd || x.op == api.OpOr }

// size returns the number of nodes.
func (x *expr) size() int {
	if x == nil {
		return 0
	}
	return 1 + x.a.size() + x.b.size()
}

// postorder returns the formula in postorder.
func (x *expr) postorder() api.Formula {
	var f api.Formula
	var walk func(x *expr) int
	walk = func(x *expr) int {
		n := api.FormulaNode{Op: x.op, Var: x.variable}
		if x.a != nil {
			n.A = walk(x.a)
		}
		if x.b != nil {
			n.B = walk(x.b)
		}
		f = append(f, n)
		return len(f) - 1
	}
	walk(x)
	return f
}

// shuffled returns a formula of the same tree whose nodes have a random order.
func (x *expr) shuffled(r *rand.Rand) api.Formula {
	var f api.Formula
	places := map[*expr]int{}
	open := []*expr{x}
	order := []*expr{}
	for len(open) > 0 {
		i := r.IntN(len(open))
		next := open[i]
		open = slices.Delete(open, i, i+1)
		order = append(order, next)
		for _, kid := range []*expr{next.a, next.b} {
			if kid != nil {
				open = append(open, kid)
			}
		}
	}
	slices.Reverse(order)
	for i, x := range order {
		n := api.FormulaNode{Op: x.op, Var: x.variable}
		if x.a != nil {
			n.A = places[x.a]
		}
		if x.b != nil {
			n.B = places[x.b]
		}
		f = append(f, n)
		places[x] = i
	}
	return f
}

// value returns the value in a configuration.
func (x *expr) value(c api.Config) bool {
	switch x.op {
	case api.OpTrue:
		return true
	case api.OpVar:
		return uint64(c)&(uint64(1)<<x.variable) != 0
	case api.OpNot:
		return !x.a.value(c)
	case api.OpAnd:
		both := x.a.value(c)
		return x.b.value(c) && both
	case api.OpOr:
		one := x.a.value(c)
		return x.b.value(c) || one
	}
	return false
}

// text returns the expression by the sentences of C3.
func (x *expr) text(names []string) string {
	switch x.op {
	case api.OpFalse:
		return "false"
	case api.OpTrue:
		return "true"
	case api.OpVar:
		return names[x.variable]
	case api.OpNot:
		return "!" + x.a.enclosed(names, x.a.binary())
	case api.OpAnd:
		return x.a.enclosed(names, x.a.op == api.OpOr) + " && " + x.b.enclosed(names, x.b.binary())
	}
	return x.a.enclosed(names, false) + " || " + x.b.enclosed(names, x.b.op == api.OpOr)
}

func (x *expr) enclosed(names []string, parentheses bool) string {
	if parentheses {
		return "(" + x.text(names) + ")"
	}
	return x.text(names)
}

// random returns a tree of about size nodes over the conditions in vars.
func random(r *rand.Rand, size int, vars []int) *expr {
	switch {
	case size <= 1 && r.IntN(8) == 0:
		return constant(r.IntN(2) == 0)
	case size <= 1:
		return variable(vars[r.IntN(len(vars))])
	case size == 2 || r.IntN(5) == 0:
		return not(random(r, size-1, vars))
	}
	left := 1 + r.IntN(size-2)
	a, b := random(r, left, vars), random(r, size-1-left, vars)
	if r.IntN(2) == 0 {
		return and(a, b)
	}
	return or(a, b)
}

// small returns all trees with n nodes over true and the conditions 0 and 1.
func small(n int) []*expr {
	if n == 1 {
		return []*expr{constant(true), variable(0), variable(1)}
	}
	var l []*expr
	for _, a := range small(n - 1) {
		l = append(l, not(a))
	}
	for left := 1; left < n-1; left++ {
		for _, a := range small(left) {
			for _, b := range small(n - 1 - left) {
				l = append(l, and(a, b), or(a, b))
			}
		}
	}
	return l
}

// tokenAtStart is a token as the chapter describes it, with the spaces before it.
var tokenAtStart = regexp.MustCompile(`^[ \t]*(&&|\|\||!|\(|\)|[A-Za-z_][A-Za-z0-9_]*)`)

// tokens returns the tokens of a string, and whether it consists of tokens, spaces and tabs.
func tokens(s string) ([]string, bool) {
	var l []string
	for {
		m := tokenAtStart.FindStringSubmatch(s)
		if m == nil {
			return l, strings.Trim(s, " \t") == ""
		}
		l = append(l, m[1])
		s = s[len(m[0]):]
	}
}

// read returns the tree of an expression by the rules of the grammar, read literally: it tries each place of the last operator. An unknown name is condition -1. It returns nil for what is no expression.
func read(names, tokens []string) *expr {
	for i, token := range tokens {
		if token == "||" {
			if a, b := read(names, tokens[:i]), readConjunction(names, tokens[i+1:]); a != nil && b != nil {
				return or(a, b)
			}
		}
	}
	return readConjunction(names, tokens)
}

func readConjunction(names, tokens []string) *expr {
	for i, token := range tokens {
		if token == "&&" {
			if a, b := readConjunction(names, tokens[:i]), readFactor(names, tokens[i+1:]); a != nil && b != nil {
				return and(a, b)
			}
		}
	}
	return readFactor(names, tokens)
}

func readFactor(names, tokens []string) *expr {
	last := len(tokens) - 1
	switch {
	case last < 0:
		return nil
	case tokens[0] == "!":
		if a := readFactor(names, tokens[1:]); a != nil {
			return not(a)
		}
		return nil
	case tokens[0] == "(" && tokens[last] == ")" && last > 0:
		return read(names, tokens[1:last])
	case last > 0 || strings.Contains("&& || ( )", tokens[0]):
		return nil
	case tokens[0] == "true" || tokens[0] == "false":
		return constant(tokens[0] == "true")
	}
	return variable(slices.Index(names, tokens[0]))
}

// unknown says whether a tree has an unknown name.
func (x *expr) unknown() bool {
	return x != nil && (x.variable < 0 || x.a.unknown() || x.b.unknown())
}

// parsed returns what Parse must return, up to the limit on nodes.
func parsed(names []string, s string) (api.Formula, api.Errno) {
	l, ok := tokens(s)
	if !ok {
		return nil, api.ErrSyntax
	}
	x := read(names, l)
	switch {
	case x == nil:
		return nil, api.ErrSyntax
	case x.unknown():
		return nil, api.ErrNone
	}
	return x.postorder(), api.OK
}

// expect fails unless a call has returned this formula, or this error and no formula.
func expect(t *testing.T, call string, got api.Formula, e api.Errno, want api.Formula, error api.Errno) {
	t.Helper()
	if e != error || !slices.Equal(got, want) {
		t.Fatalf("%s = %v, %v, want %v, %v", call, got, e, want, error)
	}
}

// expectText fails unless a call has returned this text, or this error and no text.
func expectText(t *testing.T, call, got string, e api.Errno, want string, error api.Errno) {
	t.Helper()
	if e != error || got != want {
		t.Fatalf("%s = %q, %v, want %q, %v", call, got, e, want, error)
	}
}

// abc are names for the conditions 0 to 2.
func abc() []string { return []string{"A", "B", "C"} }

// many are names for all conditions.
func many() []string {
	var names []string
	for i := range api.MaxConditions {
		names = append(names, string(rune('a'+i%26))+strings.Repeat("_", i/26))
	}
	return names
}

// badNames are lists that are no name lists, each for a reason of its own.
func badNames() [][]string {
	l := [][]string{{"true"}, {"false"}, {"A", "true"}, {"A", "A"}, {"A", "B", "A"}, {"B", "A", "A"}, append(many(), "last")}
	for _, name := range []string{"", " ", "A ", " A", "1", "1A", "A-B", "A.B", "A\t", "A\n", "é", "Aé", "A\x00", "\xff", "!", "!A", "(A)", "&&", "A B", "A&", "@", "[", "`", "{", "A@", "A[", "A`", "A{", "A/", "A:"} {
		l = append(l, []string{name}, []string{"A", name}, []string{name, "A"})
	}
	return l
}

// must returns the diagram of a call that cannot fail.
func must(t *testing.T) func(d api.Diagram, e api.Errno) api.Diagram {
	return func(d api.Diagram, e api.Errno) api.Diagram {
		t.Helper()
		if e != api.OK {
			t.Fatalf("error %v", e)
		}
		return d
	}
}

// setOf returns the set of a tree by the operations of layer 2.
func setOf(t *testing.T, x *expr) api.Diagram {
	t.Helper()
	m := must(t)
	switch x.op {
	case api.OpVar:
		return m(diagram.Var(x.variable))
	case api.OpNot:
		return m(diagram.Not(setOf(t, x.a)))
	case api.OpAnd:
		return m(diagram.And(setOf(t, x.a), setOf(t, x.b)))
	case api.OpOr:
		return m(diagram.Or(setOf(t, x.a), setOf(t, x.b)))
	}
	return diagram.Constant(x.op == api.OpTrue)
}

// chain returns a formula of n nodes in postorder: a condition under n-1 negations.
func chain(n int) api.Formula {
	f := api.Formula{{Op: api.OpVar}}
	for i := range n - 1 {
		f = append(f, api.FormulaNode{Op: api.OpNot, A: i})
	}
	return f
}

// brokenFormulas are formulas that are not valid, each for a reason of its own.
func brokenFormulas() []api.Formula {
	a, b := api.FormulaNode{Op: api.OpVar}, api.FormulaNode{Op: api.OpVar, Var: 1}
	return []api.Formula{
		nil,
		{},
		chain(api.MaxNodes + 1),
		make(api.Formula, 100000),
		{{Op: -1}},
		{{Op: 6}},
		{{Op: 1 << 32}},
		{{Op: api.OpVar, Var: -1}},
		{{Op: api.OpVar, Var: 64}},
		{{Op: api.OpVar, Var: -1 << 63}},
		{{Op: api.OpVar, Var: 1<<63 - 1}},
		{{Op: api.OpFalse, Var: 1}},
		{{Op: api.OpTrue, Var: 1}},
		{a, {Op: api.OpNot, Var: 1}},
		{a, b, {Op: api.OpAnd, Var: 1, B: 1}},
		{a, b, {Op: api.OpOr, Var: 1, B: 1}},
		{{Op: api.OpTrue, A: 1}},
		{{Op: api.OpFalse, B: 1}},
		{{Op: api.OpVar, A: 1}},
		{{Op: api.OpVar, B: -1}},
		{a, {Op: api.OpVar, A: 0, B: 1}},
		{a, {Op: api.OpNot, A: 0, B: 1}},
		{a, {Op: api.OpNot, A: 1}},
		{a, {Op: api.OpNot, A: 2}},
		{a, {Op: api.OpNot, A: -1}},
		{{Op: api.OpNot, A: 0}},
		{{Op: api.OpNot, A: 1}, a},
		{a, b, {Op: api.OpAnd, A: 0, B: 0}},
		{a, {Op: api.OpAnd, A: 0, B: 0}},
		{a, {Op: api.OpOr, A: 0, B: 0}},
		{a, {Op: api.OpOr, A: 0, B: 1}},
		{a, {Op: api.OpOr, A: 1, B: 0}},
		{a, b, {Op: api.OpAnd, A: 2, B: 1}},
		{a, b, {Op: api.OpAnd, A: 1, B: 2}},
		{a, b, {Op: api.OpAnd, A: -1, B: 1}},
		{a, b, {Op: api.OpOr, A: 0, B: -1 << 63}},
		{a, b, {Op: api.OpOr, A: 1<<63 - 1, B: 0}},
		{a, b},
		{a, b, {Op: api.OpNot, A: 1}},
		{a, {Op: api.OpNot, A: 0}, {Op: api.OpNot, A: 0}},
		{a, {Op: api.OpNot, A: 0}, {Op: api.OpAnd, A: 0, B: 1}},
		{a, {Op: api.OpNot, A: 0}, {Op: api.OpNot, A: 0}, {Op: api.OpOr, A: 1, B: 2}},
	}
}

// wellFormed says whether a formula is valid by the chapter's definition, read literally.
func wellFormed(f api.Formula) bool {
	if len(f) < 1 || len(f) > 512 {
		return false
	}
	operands := make([]int, len(f)) // how often each node is an operand
	for i, n := range f {
		earlier := func(operand int) bool {
			if operand < 0 || operand >= i {
				return false
			}
			operands[operand]++
			return true
		}
		ok := false
		switch n.Op {
		case api.OpFalse, api.OpTrue:
			ok = n.Var == 0 && n.A == 0 && n.B == 0
		case api.OpVar:
			ok = n.Var >= 0 && n.Var <= 63 && n.A == 0 && n.B == 0
		case api.OpNot:
			ok = n.Var == 0 && earlier(n.A) && n.B == 0
		case api.OpAnd, api.OpOr:
			ok = n.Var == 0 && earlier(n.A) && earlier(n.B)
		}
		if !ok {
			return false
		}
	}
	for _, times := range operands[:len(f)-1] {
		if times != 1 {
			return false
		}
	}
	return true
}

// agree fails unless Check says of a formula what the definition says.
func agree(t *testing.T, f api.Formula) {
	t.Helper()
	want := api.ErrFormula
	if wellFormed(f) {
		want = api.OK
	}
	if e := formula.Check(f); e != want {
		t.Fatalf("Check(%v) = %v, want %v", f, e, want)
	}
}
