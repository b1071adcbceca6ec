package grammar_test

import (
	"bytes"
	"math"
	"math/rand/v2"
	"reflect"
	"regexp"
	"slices"
	"strconv"
	"testing"

	"koine/api"
	"koine/diagram"
	"koine/grammar"
	"koine/pattern"
)

// sure returns the result of a call that cannot fail.
func sure[T any](result T, e api.Errno) T {
	if e != api.OK {
		panic("error " + strconv.Itoa(int(e)))
	}
	return result
}

func all() api.Diagram              { return diagram.Constant(true) }
func none() api.Diagram             { return diagram.Constant(false) }
func is(v int) api.Diagram          { return sure(diagram.Var(v)) }
func aToken(i int) api.Symbol       { return api.Symbol{Token: true, Index: i} }
func aNonterminal(i int) api.Symbol { return api.Symbol{Index: i} }
func like(s string) api.Pattern     { return sure(pattern.Parse(s)) }
func either(v int) api.Diagram      { return sure(diagram.Or(is(v), is(v+1))) }
func zero(g api.Grammar) bool       { return reflect.ValueOf(g).IsZero() }
func extremes() []int               { return []int{-1, math.MinInt, math.MaxInt, 1 << 32, -1 << 32} }
func tooWide() api.Diagram          { return api.Diagram{Nodes: make([]api.Branch, api.MaxBranches+1), Root: 2} }
func notReduced() api.Diagram       { return api.Diagram{Nodes: []api.Branch{{Low: 1, High: 1}}, Root: 2} }
func notReached() api.Diagram       { return api.Diagram{Nodes: []api.Branch{{High: 1}}, Root: 1} }
func badSets(n int) []api.Diagram { // for grammars with n conditions
	return []api.Diagram{is(n), is(63), {Root: -1}, {Root: 2}, notReduced(), notReached(), tooWide(), sure(diagram.And(is(0), is(n)))}
}

// plain is the first grammar of the chapter's examples.
func plain() api.Grammar {
	return api.Grammar{Family: all(), Nonterminals: []string{"S"}, Productions: []api.Production{{Name: "s", If: all()}}}
}

// rich is a grammar that has every kind of element.
func rich() api.Grammar {
	return api.Grammar{
		Conditions: []string{"A", "B", "_c3"},
		Family:     either(0),
		Tokens: []api.Token{
			{Name: "id", Pattern: like("[a-z]([a-z])*"), Sample: "x", If: all()},
			{Name: "if", Literal: "if", If: is(0)},
			{Name: "(", Literal: "(", If: all()},
			{Name: ")", Literal: ")", If: all()},
			{Name: "space", Class: api.Layout, Pattern: like(`\x20`), If: all()},
			{Name: "line", Class: api.Layout, Literal: "\n", If: is(2)},
			{Name: "remark", Class: api.Remark, Pattern: like("#([a-z])*"), If: all()},
			{Name: "number", Pattern: like("[0-9]([0-9])*"), Sample: "42", If: none()},
		},
		Nonterminals: []string{"S", "E", "L"},
		Productions: []api.Production{
			{Name: "s", Right: []api.Symbol{aNonterminal(1)}, If: all()},
			{Name: "name", Left: 1, Right: []api.Symbol{aToken(0)}, If: is(1), Scope: api.Scope{Uses: 1, Allowed: 3}},
			{Name: "paren", Left: 1, Right: []api.Symbol{aToken(2), aNonterminal(1), aToken(3)}, If: all(), Bracket: true},
			{Name: "two", Left: 1, Right: []api.Symbol{aNonterminal(1), aToken(1), aNonterminal(1)}, If: is(0), Rank: api.Preferred,
				Layout: []api.Constraint{{Kind: api.Offside, A: 2}, {Kind: api.Align, B: 2}, {Kind: api.Indent, A: 2, B: 1}, {Kind: api.SameLine, A: 1, B: 1}}},
			{Name: "declare", Left: 2, Right: []api.Symbol{aToken(0), aNonterminal(2), aToken(7)}, If: either(1),
				Scope: api.Scope{Opens: true, Declares: 1, Kind: 7, Uses: 3, Allowed: 255}},
			{Name: "empty", Left: 2, If: none(), Rank: api.Avoided, Scope: api.Scope{Opens: true}},
		},
		Levels: []api.Level{{Productions: []int{3, 1}, Assoc: api.AssocLeft, If: is(2)}, {Assoc: api.AssocNever, If: all()}, {Productions: []int{2}, If: all()}},
		Filters: []api.Filter{
			{Kind: api.FilterChild, Parent: 3, At: 2, Child: 3, If: all()},
			{Kind: api.FilterSpine, Parent: 4, At: 1, Child: 5, If: is(1)},
			{Kind: api.FilterFollow, Left: 1, Tokens: []int{0, 1, 7}, If: all()},
			{Kind: api.FilterPrecede, Left: 2, Tokens: []int{3}, If: all()},
			{Kind: api.FilterReserve, Token: 0, Tokens: []int{1, 5}, If: is(0)},
		},
	}
}

var identifier = regexp.MustCompile(`\A[a-zA-Z_][a-zA-Z_0-9]*\z`)

// first returns the error that Check must return, by the sentences of the chapter in their order.
func first(g api.Grammar) api.Errno {
	if len(g.Conditions) > 64 || len(g.Tokens) > 256 || len(g.Nonterminals) > 2000 || len(g.Productions) > 2000 || len(g.Levels) > 2000 || len(g.Filters) > 4096 {
		return api.ErrLarge
	}
	for _, p := range g.Productions {
		if len(p.Right) > 16 || len(p.Layout) > 16 {
			return api.ErrLarge
		}
	}
	n := len(g.Conditions)
	for _, name := range g.Conditions {
		if !identifier.MatchString(name) || name == "true" || name == "false" {
			return api.ErrFamily
		}
	}
	if !distinct(g.Conditions) || !fits(g.Family, n) || diagram.Same(g.Family, diagram.Constant(false)) {
		return api.ErrFamily
	}
	var names []string
	for _, t := range g.Tokens {
		names = append(names, t.Name)
		if t.Name == "" || !distinct(names) || !slices.Contains([]int{0, 1, 2}, t.Class) || !lexical(t) || !fits(t.If, n) {
			return api.ErrToken
		}
	}
	if slices.Contains(g.Nonterminals, "") || !distinct(g.Nonterminals) || g.Start < 0 || g.Start >= len(g.Nonterminals) {
		return api.ErrSymbol
	}
	names = nil
	for _, p := range g.Productions {
		names = append(names, p.Name)
		if !symbolic(g, p) {
			return api.ErrSymbol
		}
		if p.Name == "" || !distinct(names) || !fits(p.If, n) || p.Rank < -1 || p.Rank > 1 || !arranged(p) || !scoped(p) || p.Bracket && !bracket(p) {
			return api.ErrProduction
		}
	}
	var leveled []int
	for _, l := range g.Levels {
		leveled = append(leveled, l.Productions...)
		outside := slices.ContainsFunc(leveled, func(p int) bool { return p < 0 || p >= len(g.Productions) })
		if l.Assoc < 0 || l.Assoc > 3 || outside || !distinct(leveled) || !fits(l.If, n) {
			return api.ErrFilter
		}
	}
	for _, f := range g.Filters {
		if !fits(f.If, n) || !filtering(g, f) {
			return api.ErrFilter
		}
	}
	return api.OK
}

func distinct[T comparable](l []T) bool {
	seen := map[T]bool{}
	for _, x := range l {
		seen[x] = true
	}
	return len(seen) == len(l)
}

func fits(d api.Diagram, n int) bool {
	if diagram.Check(d) != api.OK {
		return false
	}
	for _, v := range diagram.Support(d) {
		if v >= n {
			return false
		}
	}
	return true
}

func lexical(t api.Token) bool {
	literal := t.Literal != "" && len(t.Pattern) == 0 && t.Sample == ""
	other := t.Literal == "" && pattern.Check(t.Pattern) == api.OK
	if t.Class == api.Ordinary {
		other = other && t.Sample != "" && pattern.Matches(t.Pattern, t.Sample)
	} else {
		other = other && t.Sample == ""
	}
	return literal || other
}

func ordinary(g api.Grammar, i int) bool {
	return i >= 0 && i < len(g.Tokens) && g.Tokens[i].Class == api.Ordinary
}

func literal(g api.Grammar, i int) bool {
	return i >= 0 && i < len(g.Tokens) && g.Tokens[i].Literal != ""
}

func nonterminal(g api.Grammar, i int) bool { return i >= 0 && i < len(g.Nonterminals) }

func symbolic(g api.Grammar, p api.Production) bool {
	for _, s := range p.Right {
		if s.Token && !ordinary(g, s.Index) || !s.Token && !nonterminal(g, s.Index) {
			return false
		}
	}
	return nonterminal(g, p.Left)
}

func arranged(p api.Production) bool {
	for _, l := range p.Layout {
		if l.Kind < 1 || l.Kind > 4 || l.A < 0 || l.A > len(p.Right)-1 || l.B < 0 || l.B > len(p.Right)-1 || l.Kind == api.Offside && l.B != 0 {
			return false
		}
	}
	return true
}

func scoped(p api.Production) bool {
	tokens := []int{0} // and the numbers k such that symbol k - 1 is a token
	for i, s := range p.Right {
		if s.Token {
			tokens = append(tokens, i+1)
		}
	}
	s := p.Scope
	if !slices.Contains(tokens, s.Declares) || !slices.Contains(tokens, s.Uses) {
		return false
	}
	kind := s.Declares == 0 && s.Kind == 0 || s.Declares != 0 && s.Kind >= 1 && s.Kind <= 7
	allowed := s.Uses == 0 && s.Allowed == 0 || s.Uses != 0 && s.Allowed >= 0 && s.Allowed <= 255
	return kind && allowed
}

func bracket(p api.Production) bool {
	form := len(p.Right) == 3 && p.Right[0].Token && !p.Right[1].Token && p.Right[1].Index == p.Left && p.Right[2].Token
	return form && p.Rank == 0 && len(p.Layout) == 0 && p.Scope == api.Scope{}
}

func filtering(g api.Grammar, f api.Filter) bool {
	ascending := len(f.Tokens) > 0
	for i := 1; i < len(f.Tokens); i++ {
		ascending = ascending && f.Tokens[i-1] < f.Tokens[i]
	}
	every := func(is func(api.Grammar, int) bool) bool {
		return !slices.ContainsFunc(f.Tokens, func(i int) bool { return !is(g, i) })
	}
	switch f.Kind {
	case api.FilterChild, api.FilterSpine:
		rest := f.Left == 0 && f.Token == 0 && len(f.Tokens) == 0
		if !rest || f.Parent < 0 || f.Parent >= len(g.Productions) || f.Child < 0 || f.Child >= len(g.Productions) {
			return false
		}
		right := g.Productions[f.Parent].Right
		return f.At >= 0 && f.At < len(right) && !right[f.At].Token && right[f.At].Index == g.Productions[f.Child].Left
	case api.FilterFollow, api.FilterPrecede:
		rest := f.Parent == 0 && f.At == 0 && f.Child == 0 && f.Token == 0
		return rest && nonterminal(g, f.Left) && ascending && every(ordinary)
	case api.FilterReserve:
		rest := f.Parent == 0 && f.At == 0 && f.Child == 0 && f.Left == 0
		return rest && ordinary(g, f.Token) && g.Tokens[f.Token].Literal == "" && ascending && every(literal)
	}
	return false
}

// put returns a number as the encoding has it.
func put(n uint64) []byte {
	groups := []byte{byte(n % 128)}
	for n /= 128; n > 0; n /= 128 {
		groups[len(groups)-1] += 128
		groups = append(groups, byte(n%128))
	}
	return groups
}

// spell returns the encoding of a value by the chapter's definition: it visits the fields as package api declares them.
func spell(v reflect.Value, rank bool) []byte {
	var b []byte
	switch v.Kind() {
	case reflect.Int:
		n := v.Int()
		if rank {
			n++
		}
		b = put(uint64(n))
	case reflect.Bool:
		b = []byte{0}
		if v.Bool() {
			b = []byte{1}
		}
	case reflect.String:
		b = append(put(uint64(v.Len())), v.String()...)
	case reflect.Slice:
		b = put(uint64(v.Len()))
		for i := range v.Len() {
			b = append(b, spell(v.Index(i), false)...)
		}
	case reflect.Struct:
		for i := range v.NumField() {
			b = append(b, spell(v.Field(i), v.Type().Field(i).Name == "Rank")...)
		}
	default:
		panic("a field of kind " + v.Kind().String())
	}
	return b
}

func spelled(g api.Grammar) []byte { return spell(reflect.ValueOf(g), false) }

// guess reads a value from the beginning of b, if b begins with its encoding; otherwise the result does not matter. It returns the rest.
func guess(v reflect.Value, rank bool, b []byte) []byte {
	number := func() int {
		n := 0
		for i := 0; len(b) > 0; i++ {
			x := b[0]
			b = b[1:]
			n |= int(x%128) << (7 * i)
			if x < 128 {
				break
			}
		}
		return n
	}
	switch v.Kind() {
	case reflect.Int:
		v.SetInt(int64(number()))
		if rank {
			v.SetInt(v.Int() - 1)
		}
	case reflect.Bool:
		v.SetBool(number() == 1)
	case reflect.String:
		n := max(0, min(number(), len(b)))
		v.SetString(string(b[:n]))
		b = b[n:]
	case reflect.Slice:
		n := number()
		for i := 0; i < n && len(b) > 0; i++ {
			v.Set(reflect.Append(v, reflect.Zero(v.Type().Elem())))
			b = guess(v.Index(i), false, b)
		}
	case reflect.Struct:
		for i := range v.NumField() {
			b = guess(v.Field(i), v.Type().Field(i).Name == "Rank", b)
		}
	}
	return b
}

// guessed returns the only grammar of which b can be the encoding, and whether it is.
func guessed(b []byte) (api.Grammar, bool) {
	var g api.Grammar
	guess(reflect.ValueOf(&g).Elem(), false, b)
	return g, bytes.Equal(spelled(g), b) && first(g) == api.OK
}

// copied returns a value that shares no memory with v. All lists have spare capacity.
func copied(v reflect.Value) reflect.Value {
	c := reflect.New(v.Type()).Elem()
	switch v.Kind() {
	case reflect.Slice:
		c.Set(reflect.MakeSlice(v.Type(), v.Len(), v.Len()+2))
		for i := range v.Len() {
			c.Index(i).Set(copied(v.Index(i)))
		}
	case reflect.Struct:
		for i := range v.NumField() {
			c.Field(i).Set(copied(v.Field(i)))
		}
	default:
		c.Set(v)
	}
	return c
}

func copyOf(g api.Grammar) api.Grammar { return copied(reflect.ValueOf(g)).Interface().(api.Grammar) }

// untouched says whether the spare capacity of all lists of a copy is still zero.
func untouched(v reflect.Value) bool {
	switch v.Kind() {
	case reflect.Slice:
		spare := v.Slice(v.Len(), v.Cap())
		for i := range spare.Len() {
			if !spare.Index(i).IsZero() {
				return false
			}
		}
		for i := range v.Len() {
			if !untouched(v.Index(i)) {
				return false
			}
		}
	case reflect.Struct:
		for i := range v.NumField() {
			if !untouched(v.Field(i)) {
				return false
			}
		}
	}
	return true
}

// unchanged fails unless a copy is still what it was copied from.
func unchanged(t *testing.T, copy, original api.Grammar) {
	t.Helper()
	if !equal(copy, original) || !untouched(reflect.ValueOf(copy)) {
		t.Fatalf("an argument was changed from %v to %v", original, copy)
	}
}

// equal says whether two grammars are equal, without regard to the difference of nil and empty lists.
func equal(a, b api.Grammar) bool { return reflect.DeepEqual(copyOf(a), copyOf(b)) }

// memories returns where the lists of a value are in memory, each one from its first byte to behind its capacity.
func memories(v reflect.Value) [][2]uintptr {
	var l [][2]uintptr
	switch v.Kind() {
	case reflect.Slice:
		if v.Cap() > 0 {
			l = append(l, [2]uintptr{v.Pointer(), v.Pointer() + uintptr(v.Cap())*v.Type().Elem().Size()})
		}
		for i := range v.Len() {
			l = append(l, memories(v.Index(i))...)
		}
	case reflect.Struct:
		for i := range v.NumField() {
			l = append(l, memories(v.Field(i))...)
		}
	}
	return l
}

// separate fails if two lists of the values share memory.
func separate(t *testing.T, values ...any) {
	t.Helper()
	var l [][2]uintptr
	for _, v := range values {
		l = append(l, memories(reflect.ValueOf(v))...)
	}
	slices.SortFunc(l, func(a, b [2]uintptr) int { return slices.Compare(a[:], b[:]) })
	for i := 1; i < len(l); i++ {
		if l[i][0] < l[i-1][1] {
			t.Fatalf("two lists share memory")
		}
	}
}

// leaves returns all numbers, bools, strings and lists of a value that can be set.
func leaves(v reflect.Value) []reflect.Value {
	var l []reflect.Value
	switch v.Kind() {
	case reflect.Struct:
		for i := range v.NumField() {
			l = append(l, leaves(v.Field(i))...)
		}
		return l
	case reflect.Slice:
		for i := range v.Len() {
			l = append(l, leaves(v.Index(i))...)
		}
	}
	return append(l, v)
}

// mutate changes a random number, bool, string or list of a grammar.
func mutate(r *rand.Rand, g *api.Grammar) {
	l := leaves(reflect.ValueOf(g).Elem())
	v := l[r.IntN(len(l))]
	switch v.Kind() {
	case reflect.Int:
		near := []int64{v.Int() - 1, v.Int() + 1, 0, 1, 2, 3, r.Int64N(9), r.Int64N(300) - 20, math.MinInt64, math.MaxInt64}
		v.SetInt(near[r.IntN(len(near))])
	case reflect.Bool:
		v.SetBool(!v.Bool())
	case reflect.String:
		near := []string{"", "true", "x", "S", "A", v.String() + "_", v.String() + "é", "id"}
		v.SetString(near[r.IntN(len(near))])
	case reflect.Slice:
		mutateList(r, v)
	}
}

func mutateList(r *rand.Rand, v reflect.Value) {
	n := v.Len()
	if n == 0 {
		v.Set(reflect.MakeSlice(v.Type(), 1+r.IntN(3), 3))
		return
	}
	i, j := r.IntN(n), r.IntN(n)
	switch r.IntN(4) {
	case 0:
		v.Set(reflect.AppendSlice(v.Slice3(0, i, i), v.Slice(i+1, n)))
	case 1:
		v.Set(reflect.Append(v, copied(v.Index(i))))
	case 2:
		a, b := copied(v.Index(i)), copied(v.Index(j))
		v.Index(i).Set(b)
		v.Index(j).Set(a)
	case 3:
		v.SetZero()
	}
}

// randomSet returns a set of configurations of n conditions.
func randomSet(r *rand.Rand, n int) api.Diagram {
	d := diagram.Constant(r.IntN(4) > 0)
	for range r.IntN(5) {
		if n == 0 {
			break
		}
		x := is(r.IntN(n))
		switch r.IntN(4) {
		case 0:
			d = sure(diagram.And(d, x))
		case 1:
			d = sure(diagram.Or(d, x))
		case 2:
			d = sure(diagram.Xor(d, x))
		case 3:
			d = sure(diagram.Or(sure(diagram.Not(d)), x))
		}
	}
	return d
}

// randomGrammar returns a valid grammar with n conditions.
func randomGrammar(r *rand.Rand, n int) api.Grammar {
	g := api.Grammar{Family: none()}
	for i := range n {
		g.Conditions = append(g.Conditions, "C"+strconv.Itoa(i))
	}
	for diagram.Same(g.Family, none()) {
		g.Family = randomSet(r, n)
	}
	for i := range r.IntN(8) {
		g.Tokens = append(g.Tokens, randomToken(r, n, "t"+strconv.Itoa(i)))
	}
	for i := range 1 + r.IntN(5) {
		g.Nonterminals = append(g.Nonterminals, "N"+strconv.Itoa(i))
	}
	g.Start = r.IntN(len(g.Nonterminals))
	for i := range r.IntN(9) {
		g.Productions = append(g.Productions, randomProduction(r, g, "p"+strconv.Itoa(i)))
	}
	loose := r.Perm(len(g.Productions))
	for range r.IntN(4) {
		k := r.IntN(len(loose) + 1)
		g.Levels = append(g.Levels, api.Level{Productions: slices.Clone(loose[:k]), Assoc: r.IntN(4), If: randomSet(r, n)})
		loose = loose[k:]
	}
	for range r.IntN(12) {
		if f := randomFilter(r, g); filtering(g, f) {
			g.Filters = append(g.Filters, f)
		}
	}
	return g
}

func randomToken(r *rand.Rand, n int, name string) api.Token {
	t := api.Token{Name: name, Class: max(0, r.IntN(5)-2), If: randomSet(r, n)}
	if r.IntN(2) == 0 {
		t.Literal = "(" + name
		return t
	}
	shapes := [][2]string{{"[a-z]([a-z]|[0-9])*", "x1"}, {"a|b", "b"}, {"(ab)*", "ab"}, {`[\x00-\xff]`, "\xff"}}
	x := shapes[r.IntN(len(shapes))]
	t.Pattern = like(x[0])
	if t.Class == api.Ordinary {
		t.Sample = x[1]
	}
	return t
}

func randomProduction(r *rand.Rand, g api.Grammar, name string) api.Production {
	p := api.Production{Name: name, Left: r.IntN(len(g.Nonterminals)), If: randomSet(r, len(g.Conditions)), Rank: r.IntN(3) - 1}
	token := func() api.Symbol {
		for range 9 {
			if i := r.IntN(len(g.Tokens) + 1); ordinary(g, i) {
				return aToken(i)
			}
		}
		return aNonterminal(r.IntN(len(g.Nonterminals)))
	}
	b := api.Production{Name: name, Left: p.Left, Right: []api.Symbol{token(), aNonterminal(p.Left), token()}, If: p.If, Bracket: true}
	if r.IntN(3) == 0 && bracket(b) {
		return b
	}
	for range r.IntN(6) {
		p.Right = append(p.Right, []api.Symbol{token(), aNonterminal(r.IntN(len(g.Nonterminals)))}[r.IntN(2)])
	}
	for range r.IntN(4) {
		l := api.Constraint{Kind: 1 + r.IntN(4), A: r.IntN(6), B: r.IntN(6)}
		if p.Layout = append(p.Layout, l); !arranged(p) {
			p.Layout = p.Layout[:len(p.Layout)-1]
		}
	}
	for range 4 {
		s := api.Scope{Opens: r.IntN(2) == 0, Declares: r.IntN(6), Kind: 1 + r.IntN(7), Uses: r.IntN(6), Allowed: r.IntN(256)}
		if r.IntN(3) == 0 {
			s.Declares, s.Kind = 0, 0
		}
		if old := p.Scope; true {
			if p.Scope = s; !scoped(p) {
				p.Scope = old
			}
		}
	}
	return p
}

// randomFilter returns a filter that may not be valid.
func randomFilter(r *rand.Rand, g api.Grammar) api.Filter {
	f := api.Filter{Kind: 1 + r.IntN(5), If: randomSet(r, len(g.Conditions))}
	switch f.Kind {
	case api.FilterChild, api.FilterSpine:
		f.Parent, f.At, f.Child = r.IntN(len(g.Productions)+1), r.IntN(6), r.IntN(len(g.Productions)+1)
	default:
		for i := range g.Tokens {
			if r.IntN(2) == 0 {
				f.Tokens = append(f.Tokens, i)
			}
		}
		if f.Kind == api.FilterReserve {
			f.Tokens = slices.DeleteFunc(f.Tokens, func(i int) bool { return !literal(g, i) })
			f.Token = r.IntN(len(g.Tokens) + 1)
		} else {
			f.Tokens = slices.DeleteFunc(f.Tokens, func(i int) bool { return !ordinary(g, i) })
			f.Left = r.IntN(len(g.Nonterminals))
		}
	}
	return f
}

// expectCheck fails unless Check returns an error, and with it the functions that need a valid grammar their errors and no result.
func expectCheck(t *testing.T, what string, g api.Grammar, want api.Errno) {
	t.Helper()
	if e := grammar.Check(g); e != want {
		t.Fatalf("%s: Check = %v, want %v", what, e, want)
	}
	if b, e := grammar.Encode(g); e != want || (len(b) > 0) != (want == api.OK) {
		t.Fatalf("%s: Encode = %d bytes, %v, want %v", what, len(b), e, want)
	}
	if want == api.OK {
		return
	}
	for _, c := range []api.Config{0, 1, 2, 3, math.MaxUint64} {
		if grammar.In(g, c) {
			t.Fatalf("%s: In of a grammar that is not valid", what)
		}
		if x, e := grammar.At(g, c); e != want || !zero(x) {
			t.Fatalf("%s: At = %v, %v, want %v", what, x, e, want)
		}
	}
	if l, ok := grammar.Configs(g, 5); len(l) > 0 || ok {
		t.Fatalf("%s: Configs = %v, %v", what, l, ok)
	}
}
