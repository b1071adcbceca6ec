package pattern_test

import (
	"fmt"
	"math/rand/v2"
	"regexp"
	"slices"
	"strconv"
	"strings"
	"testing"

	"koine/api"
	"koine/pattern"
)

// A tree is a pattern as a tree. The tests take it as the authority: its postorder, its words and its text are written down by the chapter's definitions.
type tree struct {
	kind, lo, hi int
	a, b         *tree
}

func empty() *tree               { return &tree{kind: api.PatternEmpty} }
func bytesTo(lo, hi int) *tree   { return &tree{kind: api.PatternRange, lo: lo, hi: hi} }
func char(b byte) *tree          { return bytesTo(int(b), int(b)) }
func seq(a, b *tree) *tree       { return &tree{kind: api.PatternSeq, a: a, b: b} }
func alt(a, b *tree) *tree       { return &tree{kind: api.PatternAlt, a: a, b: b} }
func repeat(a *tree) *tree       { return &tree{kind: api.PatternRepeat, a: a} }
func (x *tree) is(k ...int) bool { return slices.Contains(k, x.kind) }

// size returns the number of nodes.
func (x *tree) size() int {
	if x == nil {
		return 0
	}
	return 1 + x.a.size() + x.b.size()
}

// postorder returns the pattern in postorder.
func (x *tree) postorder() api.Pattern {
	var p api.Pattern
	var walk func(x *tree) int
	walk = func(x *tree) int {
		n := api.PatternNode{Kind: x.kind, Lo: x.lo, Hi: x.hi}
		if x.a != nil {
			n.A = walk(x.a)
		}
		if x.b != nil {
			n.B = walk(x.b)
		}
		p = append(p, n)
		return len(p) - 1
	}
	walk(x)
	return p
}

// shuffled returns a pattern of the same tree whose nodes have a random order.
func (x *tree) shuffled(r *rand.Rand) api.Pattern {
	open := []*tree{x}
	var order []*tree
	for len(open) > 0 {
		i := r.IntN(len(open))
		next := open[i]
		open = slices.Delete(open, i, i+1)
		order = append(order, next)
		for _, kid := range []*tree{next.a, next.b} {
			if kid != nil {
				open = append(open, kid)
			}
		}
	}
	slices.Reverse(order)
	var p api.Pattern
	places := map[*tree]int{}
	for i, x := range order {
		n := api.PatternNode{Kind: x.kind, Lo: x.lo, Hi: x.hi}
		if x.a != nil {
			n.A = places[x.a]
		}
		if x.b != nil {
			n.B = places[x.b]
		}
		p = append(p, n)
		places[x] = i
	}
	return p
}

// A reading is the question whether a tree matches the bytes of a string from one offset to another.
type reading struct {
	x        *tree
	from, to int
}

// matches says whether a tree matches a string, by the sentences of the chapter about the words of a node.
func (x *tree) matches(s string) bool {
	known := map[reading]bool{}
	var match func(x *tree, from, to int) bool
	match = func(x *tree, from, to int) bool {
		q := reading{x, from, to}
		if answer, ok := known[q]; ok {
			return answer
		}
		answer := false
		switch x.kind {
		case api.PatternEmpty:
			answer = from == to
		case api.PatternRange:
			answer = to-from == 1 && x.lo <= int(s[from]) && int(s[from]) <= x.hi
		case api.PatternSeq:
			for at := from; at <= to; at++ {
				answer = answer || match(x.a, from, at) && match(x.b, at, to)
			}
		case api.PatternAlt:
			answer = match(x.a, from, to) || match(x.b, from, to)
		case api.PatternRepeat:
			answer = from == to
			for at := from + 1; at <= to; at++ {
				answer = answer || match(x.a, from, at) && match(x, at, to)
			}
		}
		known[q] = answer
		return answer
	}
	return match(x, 0, len(s))
}

// text returns the canonical string by the sentences of the chapter.
func (x *tree) text() string {
	switch x.kind {
	case api.PatternEmpty:
		return "()"
	case api.PatternRange:
		if x.lo == x.hi {
			return written(x.lo)
		}
		return "[" + written(x.lo) + "-" + written(x.hi) + "]"
	case api.PatternSeq:
		return x.a.enclosed(x.a.is(api.PatternAlt)) + x.b.enclosed(x.b.is(api.PatternAlt, api.PatternSeq))
	case api.PatternAlt:
		return x.a.text() + "|" + x.b.enclosed(x.b.is(api.PatternAlt))
	}
	return x.a.enclosed(x.a.is(api.PatternAlt, api.PatternSeq)) + "*"
}

func (x *tree) enclosed(parentheses bool) string {
	if parentheses {
		return "(" + x.text() + ")"
	}
	return x.text()
}

// standsForItself says whether a byte does in a pattern's string.
func standsForItself(b int) bool {
	return b >= 33 && b <= 126 && b != '(' && b != ')' && b != '*' && b != '-' && b != '[' && b != '\\' && b != ']' && b != '|'
}

// written returns the character of a byte as the canonical string has it.
func written(b int) string {
	if standsForItself(b) {
		return string([]byte{byte(b)})
	}
	return fmt.Sprintf(`\x%02x`, b)
}

// random returns a tree of about size nodes with these leaves.
func random(r *rand.Rand, size int, leaf func() *tree) *tree {
	switch {
	case size <= 1:
		return leaf()
	case size == 2 || r.IntN(4) == 0:
		return repeat(random(r, size-1, leaf))
	}
	left := 1 + r.IntN(size-2)
	a, b := random(r, left, leaf), random(r, size-1-left, leaf)
	if r.IntN(2) == 0 {
		return seq(a, b)
	}
	return alt(a, b)
}

// letters returns random leaves over the bytes a to d.
func letters(r *rand.Rand) func() *tree {
	return func() *tree {
		if r.IntN(8) == 0 {
			return empty()
		}
		lo := 'a' + r.IntN(4)
		return bytesTo(lo, min('d', lo+r.IntN(6)/4+r.IntN(6)/5))
	}
}

// anyBytes returns random leaves over all bytes.
func anyBytes(r *rand.Rand) func() *tree {
	return func() *tree {
		lo, hi := r.IntN(256), r.IntN(256)
		switch r.IntN(5) {
		case 0:
			return empty()
		case 1:
			return bytesTo(min(lo, hi), max(lo, hi))
		}
		return bytesTo(lo, lo)
	}
}

// small returns all trees with n nodes over four leaves.
func small(n int) []*tree {
	if n == 1 {
		return []*tree{empty(), char('a'), char('b'), bytesTo('a', 'b')}
	}
	var l []*tree
	for _, a := range small(n - 1) {
		l = append(l, repeat(a))
	}
	for left := 1; left < n-1; left++ {
		for _, a := range small(left) {
			for _, b := range small(n - 1 - left) {
				l = append(l, seq(a, b), alt(a, b))
			}
		}
	}
	return l
}

// stringsOf returns all strings over an alphabet of at most n bytes, in the order of strings.
func stringsOf(alphabet string, n int) []string {
	l := []string{""}
	last := l
	for range n {
		var longer []string
		for _, s := range last {
			for _, b := range []byte(alphabet) {
				longer = append(longer, s+string([]byte{b}))
			}
		}
		l = append(l, longer...)
		last = longer
	}
	return l
}

// randomString returns a string of n bytes of an alphabet.
func randomString(r *rand.Rand, alphabet string, n int) string {
	s := make([]byte, n)
	for i := range s {
		s[i] = alphabet[r.IntN(len(alphabet))]
	}
	return string(s)
}

// allBytes is a string of all bytes.
func allBytes() string {
	s := make([]byte, 256)
	for i := range s {
		s[i] = byte(i)
	}
	return string(s)
}

// A remainder is a set of trees, sorted by their texts: what can follow a string in the words of a pattern.
type remainder []*tree

func (l remainder) text() string {
	var texts []string
	for _, x := range l {
		texts = append(texts, x.text())
	}
	return strings.Join(texts, " ")
}

func (l remainder) matchesEmpty() bool {
	return slices.ContainsFunc(l, func(x *tree) bool { return x.matches("") })
}

// after returns what can follow a byte.
func (l remainder) after(b int) remainder {
	set := map[string]*tree{}
	for _, x := range l {
		for _, y := range x.after(b) {
			set[y.text()] = y
		}
	}
	var texts []string
	for text := range set {
		texts = append(texts, text)
	}
	slices.Sort(texts)
	var next remainder
	for _, text := range texts {
		next = append(next, set[text])
	}
	return next
}

// after returns the partial derivatives of a tree: its words that begin with a byte are this byte followed by a word of one of them.
func (x *tree) after(b int) []*tree {
	var l []*tree
	switch x.kind {
	case api.PatternRange:
		if x.lo <= b && b <= x.hi {
			l = append(l, empty())
		}
	case api.PatternSeq:
		for _, y := range x.a.after(b) {
			l = append(l, seq(y, x.b))
		}
		if x.a.matches("") {
			l = append(l, x.b.after(b)...)
		}
	case api.PatternAlt:
		l = append(x.a.after(b), x.b.after(b)...)
	case api.PatternRepeat:
		for _, y := range x.a.after(b) {
			l = append(l, seq(y, x))
		}
	}
	return l
}

// firstCommon returns the first nonempty string over an alphabet, whose bytes ascend, that two trees match. It reads all strings in their order, but none that continues like one before it.
func firstCommon(x, y *tree, alphabet string) (string, api.Errno) {
	type state struct {
		text string
		x, y remainder
	}
	states := []state{{"", remainder{x}, remainder{y}}}
	seen := map[string]bool{}
	for len(states) > 0 {
		now := states[0]
		states = states[1:]
		for _, b := range []byte(alphabet) {
			next := state{now.text + string([]byte{b}), now.x.after(int(b)), now.y.after(int(b))}
			if next.x.matchesEmpty() && next.y.matchesEmpty() {
				return next.text, api.OK
			}
			if key := next.x.text() + "  " + next.y.text(); !seen[key] && len(next.x) > 0 && len(next.y) > 0 {
				seen[key] = true
				states = append(states, next)
			}
		}
	}
	return "", api.ErrNone
}

// tokenAtStart is one of the reserved bytes, or a character as the chapter describes it.
var tokenAtStart = regexp.MustCompile(`^(\\x[0-9a-f][0-9a-f]|[!-\[\]-~])`)

// tokens returns the tokens of a string, and whether it consists of tokens.
func tokens(s string) ([]string, bool) {
	var l []string
	for s != "" {
		token := tokenAtStart.FindString(s)
		if token == "" {
			return nil, false
		}
		l = append(l, token)
		s = s[len(token):]
	}
	return l, true
}

// The rules of the grammar.
const (
	ruleAlt = iota
	ruleSeq
	ruleRep
	ruleAtom
)

// A division is the question what a rule makes of the tokens from one number to another.
type division struct{ rule, from, to int }

// read returns the tree of a pattern's string by the rules of the grammar, read literally: it tries each place at which a rule can divide the tokens. It returns nil for what is no pattern's string.
func read(tokens []string) *tree {
	known := map[division]*tree{}
	var derive func(rule, from, to int) *tree
	derive = func(rule, from, to int) *tree {
		if from >= to {
			return nil
		}
		d := division{rule, from, to}
		if x, ok := known[d]; ok {
			return x
		}
		x := divide(d, tokens, derive)
		known[d] = x
		return x
	}
	return derive(ruleAlt, 0, len(tokens))
}

// divide tries the alternatives of one rule.
func divide(d division, tokens []string, derive func(rule, from, to int) *tree) *tree {
	last := d.to - 1
	switch d.rule {
	case ruleAlt:
		for i := d.from; i < d.to; i++ {
			if tokens[i] != "|" {
				continue
			}
			if a, b := derive(ruleAlt, d.from, i), derive(ruleSeq, i+1, d.to); a != nil && b != nil {
				return alt(a, b)
			}
		}
		return derive(ruleSeq, d.from, d.to)
	case ruleSeq:
		for i := d.from; i < d.to; i++ {
			if a, b := derive(ruleSeq, d.from, i), derive(ruleRep, i, d.to); a != nil && b != nil {
				return seq(a, b)
			}
		}
		return derive(ruleRep, d.from, d.to)
	case ruleRep:
		if a := derive(ruleRep, d.from, last); a != nil && tokens[last] == "*" {
			return repeat(a)
		}
		return derive(ruleAtom, d.from, d.to)
	}
	if tokens[d.from] == "(" && tokens[last] == ")" && d.to-d.from > 2 {
		return derive(ruleAlt, d.from+1, last)
	}
	return readAtom(tokens[d.from:d.to])
}

// readAtom returns the tree of an atom without parts in parentheses.
func readAtom(tokens []string) *tree {
	switch {
	case len(tokens) == 1 && readCharacter(tokens[0]) >= 0:
		return bytesTo(readCharacter(tokens[0]), readCharacter(tokens[0]))
	case len(tokens) == 2 && tokens[0] == "(" && tokens[1] == ")":
		return empty()
	case len(tokens) == 5 && tokens[0] == "[" && tokens[2] == "-" && tokens[4] == "]":
		if lo, hi := readCharacter(tokens[1]), readCharacter(tokens[3]); lo >= 0 && lo <= hi {
			return bytesTo(lo, hi)
		}
	}
	return nil
}

// readCharacter returns the byte for which a token stands, or -1.
func readCharacter(token string) int {
	if len(token) == 4 {
		b, _ := strconv.ParseUint(token[2:], 16, 8)
		return int(b)
	}
	if !standsForItself(int(token[0])) {
		return -1
	}
	return int(token[0])
}

// parsed returns what Parse must return, up to the limits.
func parsed(s string) (api.Pattern, api.Errno) {
	l, ok := tokens(s)
	if !ok {
		return nil, api.ErrPattern
	}
	x := read(l)
	if x == nil {
		return nil, api.ErrPattern
	}
	return x.postorder(), api.OK
}

// expect fails unless a call has returned this pattern, or this error and no pattern.
func expect(t *testing.T, call string, got api.Pattern, e api.Errno, want api.Pattern, error api.Errno) {
	t.Helper()
	if e != error || !slices.Equal(got, want) {
		t.Fatalf("%s = %v, %v, want %v, %v", call, got, e, want, error)
	}
}

// expectText fails unless a call has returned this text, or this error and no text.
func expectText(t *testing.T, call, got string, e api.Errno, want string, error api.Errno) {
	t.Helper()
	if e != error || got != want {
		t.Fatalf("%s = %q, %v, want %q, %v", call, got, e, want, error)
	}
}

// expectLength fails unless Longest returns n and true, or 0 and false if n is 0.
func expectLength(t *testing.T, p api.Pattern, s string, at, n int) {
	t.Helper()
	if got, ok := pattern.Longest(p, s, at); got != n || ok != (n > 0) {
		t.Fatalf("Longest(%v, %q, %d) = %d, %v, want %d", p, s, at, got, ok, n)
	}
}

// must returns the pattern of a string.
func must(t *testing.T, s string) api.Pattern {
	t.Helper()
	p, e := pattern.Parse(s)
	if e != api.OK {
		t.Fatalf("Parse(%q): %v", s, e)
	}
	return p
}

// stars returns a pattern of n nodes in postorder: a byte under n-1 repetitions.
func stars(n int) api.Pattern {
	p := api.Pattern{{Kind: api.PatternRange, Lo: 'a', Hi: 'a'}}
	for i := range n - 1 {
		p = append(p, api.PatternNode{Kind: api.PatternRepeat, A: i})
	}
	return p
}

// brokenPatterns are patterns that are not valid and not too large, each for a reason of its own.
func brokenPatterns() []api.Pattern {
	a := api.PatternNode{Kind: api.PatternRange, Lo: 'a', Hi: 'a'}
	b := api.PatternNode{Kind: api.PatternRange, Lo: 'b', Hi: 'c'}
	const least, greatest = -1 << 63, 1<<63 - 1
	l := []api.Pattern{
		nil,
		{},
		make(api.Pattern, api.MaxNodes),
		{{Kind: -1}},
		{{Kind: 5}},
		{{Kind: 1 << 32}},
		{{Kind: least}},
		{{Kind: api.PatternRange, Lo: -1}},
		{{Kind: api.PatternRange, Lo: -1, Hi: 255}},
		{{Kind: api.PatternRange, Hi: 256}},
		{{Kind: api.PatternRange, Lo: 256, Hi: 256}},
		{{Kind: api.PatternRange, Lo: 1, Hi: 0}},
		{{Kind: api.PatternRange, Lo: 255, Hi: 254}},
		{{Kind: api.PatternRange, Lo: least, Hi: greatest}},
		{{Kind: api.PatternRange, Hi: -1}},
		{{Kind: api.PatternEmpty, Lo: 1, Hi: 1}},
		{{Kind: api.PatternEmpty, Hi: 1}},
		{{Kind: api.PatternEmpty, A: 1}},
		{{Kind: api.PatternEmpty, B: 1}},
		{{Kind: api.PatternRange, A: 1}},
		{{Kind: api.PatternRange, B: -1}},
		{a, {Kind: api.PatternRange, B: 1}},
		{{Kind: api.PatternRepeat}},
		{{Kind: api.PatternRepeat, A: 1}, a},
		{{Kind: api.PatternSeq}},
		{{Kind: api.PatternAlt}},
		{a, b},
		{a, b, {Kind: api.PatternRepeat, A: 1}},
		{a, b, {Kind: api.PatternSeq, A: 0, B: 1}, a},
		{a, {Kind: api.PatternRepeat, A: 0}, {Kind: api.PatternRepeat, A: 0}},
		{a, {Kind: api.PatternRepeat, A: 0}, {Kind: api.PatternSeq, A: 0, B: 1}},
		{a, {Kind: api.PatternRepeat, A: 0}, {Kind: api.PatternRepeat, A: 0}, {Kind: api.PatternAlt, A: 1, B: 2}},
		{a, b, {Kind: api.PatternSeq, A: 0, B: 1}, {Kind: api.PatternRepeat, A: 1}, {Kind: api.PatternAlt, A: 2, B: 3}},
	}
	for _, operand := range []int{1, 2, -1, least, greatest} {
		l = append(l, api.Pattern{a, {Kind: api.PatternRepeat, A: operand}})
	}
	for _, kind := range []int{api.PatternSeq, api.PatternAlt} {
		l = append(l, api.Pattern{a, {Kind: kind, A: 0, B: 0}}, api.Pattern{a, b, {Kind: kind, A: 0, B: 0}}, api.Pattern{a, b, {Kind: kind, A: 1, B: 1}})
		for _, operand := range []int{2, 3, -1, least, greatest} {
			l = append(l, api.Pattern{a, b, {Kind: kind, A: operand, B: 1}}, api.Pattern{a, b, {Kind: kind, A: 0, B: operand}})
		}
		l = append(l, api.Pattern{a, b, {Kind: kind, A: 0, B: 1, Lo: 1, Hi: 1}}, api.Pattern{a, b, {Kind: kind, A: 0, B: 1, Hi: 1}})
	}
	return append(l, api.Pattern{a, {Kind: api.PatternRepeat, Lo: 1, Hi: 1}}, api.Pattern{a, {Kind: api.PatternRepeat, Hi: 1}}, api.Pattern{a, {Kind: api.PatternRepeat, B: 1}})
}

// largePatterns are lists with too many nodes, which would otherwise be valid or not.
func largePatterns() []api.Pattern {
	return []api.Pattern{
		stars(api.MaxNodes + 1),
		stars(5000),
		make(api.Pattern, api.MaxNodes+1),
		make(api.Pattern, 100000),
		append(stars(api.MaxNodes), api.PatternNode{Kind: 9}),
	}
}

// wellFormed says whether a pattern is valid by the chapter's definition, read literally.
func wellFormed(p api.Pattern) bool {
	if len(p) < 1 || len(p) > 512 {
		return false
	}
	operands := make([]int, len(p)) // how often each node is an operand
	for i, n := range p {
		earlier := func(operand int) bool {
			if operand < 0 || operand >= i {
				return false
			}
			operands[operand]++
			return true
		}
		ok := false
		switch n.Kind {
		case api.PatternEmpty:
			ok = n.Lo == 0 && n.Hi == 0 && n.A == 0 && n.B == 0
		case api.PatternRange:
			ok = 0 <= n.Lo && n.Lo <= n.Hi && n.Hi <= 255 && n.A == 0 && n.B == 0
		case api.PatternSeq, api.PatternAlt:
			ok = n.Lo == 0 && n.Hi == 0 && earlier(n.A) && earlier(n.B)
		case api.PatternRepeat:
			ok = n.Lo == 0 && n.Hi == 0 && earlier(n.A) && n.B == 0
		}
		if !ok {
			return false
		}
	}
	for _, times := range operands[:len(p)-1] {
		if times != 1 {
			return false
		}
	}
	return true
}

// checked returns what Check must return.
func checked(p api.Pattern) api.Errno {
	switch {
	case len(p) > 512:
		return api.ErrLarge
	case !wellFormed(p):
		return api.ErrPattern
	}
	return api.OK
}

// agree fails unless Check says of a pattern what the definition says.
func agree(t *testing.T, p api.Pattern) {
	t.Helper()
	if e := pattern.Check(p); e != checked(p) {
		t.Fatalf("Check(%v) = %v, want %v", p, e, checked(p))
	}
}
