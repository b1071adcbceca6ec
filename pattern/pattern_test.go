package pattern_test

import (
	"math/rand/v2"
	"slices"
	"strings"
	"testing"

	"koine/api"
	"koine/pattern"
)

// The chapter's examples.
func TestExamples(t *testing.T) {
	a, b, c := char('a'), char('b'), char('c')
	p, e := pattern.Parse("a(b|c)*")
	expect(t, "Parse", p, e, api.Pattern{{Kind: 1, Lo: 'a', Hi: 'a'}, {Kind: 1, Lo: 'b', Hi: 'b'}, {Kind: 1, Lo: 'c', Hi: 'c'}, {Kind: 3, A: 1, B: 2}, {Kind: 4, A: 3}, {Kind: 2, A: 0, B: 4}}, api.OK)
	if !pattern.Matches(p, "a") || !pattern.Matches(p, "abcb") {
		t.Error("Matches")
	}
	expectLength(t, p, "xabcd", 1, 3)
	s, e := pattern.Shortest(p)
	expectText(t, "Shortest", s, e, "a", api.OK)
	for want, x := range map[string]*tree{"a(bc)": seq(a, seq(b, c)), "a**": repeat(repeat(a)), `[\x00-\x20]`: bytesTo(0, 32), "()|a": alt(empty(), a)} {
		s, e := pattern.Print(x.postorder())
		expectText(t, "Print", s, e, want, api.OK)
	}
	s, e = pattern.Common(must(t, "[a-z]([a-z])*"), must(t, "i(f|n)"))
	expectText(t, "Common", s, e, "if", api.OK)
	s, e = pattern.Common(must(t, "a"), must(t, "b"))
	expectText(t, "Common", s, e, "", api.ErrNone)
	s, e = pattern.Shortest(must(t, "()"))
	expectText(t, "Shortest", s, e, "", api.ErrNone)
	for _, s := range []string{"", "a||b", "(a", "[b-a]", "*", `\x4G`} {
		p, e := pattern.Parse(s)
		expect(t, "Parse of "+s, p, e, nil, api.ErrPattern)
	}
}

// P4.1, D1: Check refuses what is no pattern, and what has too many nodes first.
func TestCheckReasons(t *testing.T) {
	for i, p := range brokenPatterns() {
		if wellFormed(p) {
			t.Fatalf("the test's pattern %d is valid", i)
		}
		if e := pattern.Check(p); e != api.ErrPattern {
			t.Errorf("broken pattern %d: %v", i, e)
		}
	}
	for i, p := range largePatterns() {
		if e := pattern.Check(p); e != api.ErrLarge {
			t.Errorf("large pattern %d: %v", i, e)
		}
	}
}

// P4.1, D1: patterns at the limits, and ones that are not in postorder.
func TestCheckValid(t *testing.T) {
	a, b := char('a').postorder()[0], char('b').postorder()[0]
	for i, p := range []api.Pattern{
		{{}},
		{{Kind: api.PatternRange}},
		{{Kind: api.PatternRange, Hi: 255}},
		{{Kind: api.PatternRange, Lo: 255, Hi: 255}},
		{a, b, {Kind: api.PatternSeq, A: 1, B: 0}},
		{a, b, {Kind: api.PatternAlt, A: 1, B: 0}},
		{a, {Kind: api.PatternRepeat}, {}, {Kind: api.PatternAlt, A: 2, B: 1}},
		{a, b, {Kind: api.PatternRepeat, A: 0}, {Kind: api.PatternRepeat, A: 1}, {Kind: api.PatternSeq, A: 3, B: 2}},
		stars(api.MaxNodes),
		stars(api.MaxNodes - 1),
	} {
		if e := pattern.Check(p); e != api.OK || !wellFormed(p) {
			t.Errorf("valid pattern %d: %v", i, e)
		}
	}
}

// P4.1, D1: all patterns with one or two nodes whose fields are near their limits.
func TestCheckSmall(t *testing.T) {
	var nodes []api.PatternNode
	for kind := -1; kind <= 5; kind++ {
		for _, lo := range []int{-1, 0, 1, 255, 256} {
			for _, hi := range []int{-1, 0, 1, 255, 256} {
				for a := -1; a <= 1; a++ {
					for b := -1; b <= 1; b++ {
						nodes = append(nodes, api.PatternNode{Kind: kind, Lo: lo, Hi: hi, A: a, B: b})
					}
				}
			}
		}
	}
	for _, n := range nodes {
		agree(t, api.Pattern{n})
		for _, m := range nodes {
			agree(t, api.Pattern{n, m})
		}
	}
}

// P4.1, D1, R1: random lists with a few nodes, and valid patterns in which one field is changed; every function returns for all of them.
func TestCheckRandom(t *testing.T) {
	r := rand.New(rand.NewPCG(4, 1))
	valid := 0
	try := func(p api.Pattern) {
		agree(t, p)
		if wellFormed(p) {
			valid++
		} else {
			refused(t, p, api.ErrPattern)
		}
	}
	for range 100000 {
		p := api.Pattern{{Kind: r.IntN(2)}}
		for range r.IntN(5) {
			n := api.PatternNode{Kind: r.IntN(5)}
			if n.Kind >= api.PatternSeq {
				n.A = r.IntN(len(p))
			}
			if n.Kind == api.PatternSeq || n.Kind == api.PatternAlt {
				n.B = r.IntN(len(p))
			}
			p = append(p, n)
		}
		try(p)
	}
	for range 20000 {
		p := random(r, 1+r.IntN(12), anyBytes(r)).shuffled(r)
		try(p)
		n := &p[r.IntN(len(p))]
		field := []*int{&n.Kind, &n.Lo, &n.Hi, &n.A, &n.B}[r.IntN(5)]
		*field += r.IntN(5) - 2
		try(p)
	}
	if valid < 25000 {
		t.Errorf("only %d valid patterns", valid)
	}
}

// refused fails unless every function refuses a pattern with this error, or with false.
func refused(t *testing.T, p api.Pattern, error api.Errno) {
	t.Helper()
	for _, s := range []string{"", "\x00", "a", "aa", "ab"} {
		if pattern.Matches(p, s) {
			t.Fatalf("%v matches %q", p, s)
		}
		for at := -1; at <= 2; at++ {
			expectLength(t, p, s, at, 0)
		}
	}
	s, e := pattern.Print(p)
	expectText(t, "Print", s, e, "", error)
	s, e = pattern.Shortest(p)
	expectText(t, "Shortest", s, e, "", error)
	everything := repeat(bytesTo(0, 255)).postorder()
	s, e = pattern.Common(p, everything)
	expectText(t, "Common", s, e, "", error)
	s, e = pattern.Common(everything, p)
	expectText(t, "Common", s, e, "", error)
}

// P4.1, R3, R8: every function refuses every pattern that is not valid; Common has the error of the first one.
func TestBrokenPatterns(t *testing.T) {
	for _, p := range brokenPatterns() {
		refused(t, p, api.ErrPattern)
	}
	for _, p := range largePatterns() {
		refused(t, p, api.ErrLarge)
		for _, q := range brokenPatterns()[:4] {
			s, e := pattern.Common(p, q)
			expectText(t, "Common", s, e, "", api.ErrLarge)
			s, e = pattern.Common(q, p)
			expectText(t, "Common", s, e, "", api.ErrPattern)
		}
	}
}

// chain returns the pattern of a string as D2 describes it.
func chain(s string) api.Pattern {
	if s == "" {
		return empty().postorder()
	}
	x := char(s[0])
	for i := 1; i < len(s); i++ {
		x = seq(x, char(s[i]))
	}
	return x.postorder()
}

// P4.1, D2: the chapter's literal, every byte, every length, and what is no sequence of characters.
func TestLiteral(t *testing.T) {
	p, e := pattern.Literal("abc")
	expect(t, "Literal", p, e, api.Pattern{{Kind: 1, Lo: 'a', Hi: 'a'}, {Kind: 1, Lo: 'b', Hi: 'b'}, {Kind: 2, A: 0, B: 1}, {Kind: 1, Lo: 'c', Hi: 'c'}, {Kind: 2, A: 2, B: 3}}, api.OK)
	p, e = pattern.Literal("")
	expect(t, "Literal", p, e, api.Pattern{{}}, api.OK)
	all := allBytes()
	for i := range all {
		p, e := pattern.Literal(all[i : i+1])
		expect(t, "Literal", p, e, api.Pattern{{Kind: 1, Lo: i, Hi: i}}, api.OK)
	}
	r := rand.New(rand.NewPCG(4, 2))
	for n := range 257 {
		for _, alphabet := range []string{all, "ab", "aé", "\x80\xff\xe2\x82\xc3", "日本\xf0\x9f"} {
			s := randomString(r, alphabet, n)
			p, e := pattern.Literal(s)
			expect(t, "Literal", p, e, chain(s), api.OK)
		}
	}
	for _, s := range []string{all, "é", "aéb", "日本語", "😀", "\xff", "\x80\x80", "é\x80", "\xe2\x82", "\xe2\x82\xac\xac", "\xf0\x9f\x98", "\ufffd", "\ufffd\xff\ufffd", "\xc0\x80", "\xed\xa0\x80"} {
		p, e := pattern.Literal(s)
		expect(t, "Literal", p, e, chain(s), api.OK)
	}
}

// P4.1, D2: a literal has at most 256 bytes, however many characters they are.
func TestLiteralLimit(t *testing.T) {
	for _, s := range []string{strings.Repeat("a", 257), strings.Repeat("é", 128) + "a", strings.Repeat("é", 200), allBytes() + "\x00", strings.Repeat("\xff", 100000)} {
		p, e := pattern.Literal(s)
		expect(t, "Literal", p, e, nil, api.ErrLarge)
	}
	p, e := pattern.Literal(strings.Repeat("é", 128))
	expect(t, "Literal", p, e, chain(strings.Repeat("é", 128)), api.OK)
	if len(p) != 511 {
		t.Errorf("%d nodes", len(p))
	}
}

// P4.6: a literal matches its string, and no other one.
func TestLiteralMatches(t *testing.T) {
	l := stringsOf("ab\xff", 4)
	for _, s := range l {
		p, _ := pattern.Literal(s)
		for _, other := range l {
			if pattern.Matches(p, other) != (s == other) {
				t.Fatalf("Literal(%q) and %q", s, other)
			}
		}
	}
	r := rand.New(rand.NewPCG(4, 3))
	for range 300 {
		s := randomString(r, allBytes(), 1+r.IntN(256))
		p, _ := pattern.Literal(s)
		if !pattern.Matches(p, s) {
			t.Fatalf("Literal(%q)", s)
		}
		at := r.IntN(len(s))
		changed := s[:at] + string([]byte{s[at] + byte(1+r.IntN(255))}) + s[at+1:]
		for _, other := range []string{"", s[1:], s[:len(s)-1], s + s, s + s[:1], s[:1] + s, s[:at] + s[at+1:], changed} {
			if other != s && pattern.Matches(p, other) {
				t.Fatalf("Literal(%q) matches %q", s, other)
			}
		}
		shortest, e := pattern.Shortest(p)
		expectText(t, "Shortest", shortest, e, s, api.OK)
		expectLength(t, p, "x"+s+s, 1, len(s))
	}
}

// R6: arguments stay as they are, also behind their end, and are not kept; results are new memory.
func TestMemory(t *testing.T) {
	r := rand.New(rand.NewPCG(4, 4))
	spare := api.PatternNode{Kind: 99, Lo: 98, Hi: 97, A: 96, B: 95}
	for range 300 {
		x := random(r, 1+r.IntN(20), letters(r))
		p := x.shuffled(r)
		argument := append(slices.Clone(p), spare, spare)[:len(p)]
		pattern.Check(argument)
		pattern.Matches(argument, "abc")
		pattern.Longest(argument, "abc", 1)
		pattern.Shortest(argument)
		pattern.Common(argument, argument)
		s, _ := pattern.Print(argument)
		if !slices.Equal(argument[:len(p)+2], append(slices.Clone(p), spare, spare)) {
			t.Fatal("a pattern has changed")
		}
		parsed, _ := pattern.Parse(s)
		literal, _ := pattern.Literal(s)
		for _, q := range []api.Pattern{argument, parsed, literal} {
			for i := range q[:cap(q)] {
				q[:cap(q)][i] = spare
			}
		}
		again, e := pattern.Parse(s)
		expect(t, "Parse", again, e, x.postorder(), api.OK)
		again, e = pattern.Literal(s)
		expect(t, "Literal", again, e, chain(s), api.OK)
	}
}
