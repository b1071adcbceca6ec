package pattern_test

import (
	"fmt"
	"math/rand/v2"
	"strings"
	"testing"

	"koine/api"
	"koine/pattern"
)

// agreeParse fails unless Parse returns what the literal reading of the grammar returns. It reports whether that is a pattern; then the canonical string of the pattern must be one that Print returns again.
func agreeParse(t *testing.T, s string) bool {
	t.Helper()
	want, error := parsed(s)
	p, e := pattern.Parse(s)
	expect(t, "Parse of "+s, p, e, want, error)
	if e != api.OK {
		return false
	}
	canonical, e := pattern.Print(p)
	if e != api.OK {
		t.Fatalf("Print of %q: %v", s, e)
	}
	again, e := pattern.Parse(canonical)
	expect(t, "Parse of "+canonical, again, e, p, api.OK)
	printed, e := pattern.Print(again)
	expectText(t, "Print of "+canonical, printed, e, canonical, api.OK)
	return true
}

// P4.1, P4.5, D3: all sequences of up to five tokens, and of up to seven without brackets.
func TestParseSmall(t *testing.T) {
	vocabulary := []string{"a", "(", ")", "|", "*", `\x62`, "[", "-", "]"}
	var extend func(s string, words, more int)
	extend = func(s string, words, more int) {
		agreeParse(t, s)
		if more == 0 {
			return
		}
		for _, token := range vocabulary[:words] {
			extend(s+token, words, more-1)
		}
	}
	extend("", len(vocabulary), 5)
	extend("", 5, 7)
}

// P4.1, P4.5, D3: random strings of pieces of patterns' strings, and of others.
func TestParseRandom(t *testing.T) {
	r := rand.New(rand.NewPCG(4, 12))
	pieces := []string{"a", "b", "|", "|", "*", "(", ")", "(", ")", "()", "[a-c]", `\x00`, `\xff`, "[", "-", "]", `[\x20-~]`, "[b-a]", `\`, `\x`, `\x4`, "4", "f", " ", "\n", "é", "\x80", "\x00", "+", "."}
	accepted := 0
	for i := range 100000 {
		s := ""
		// Half of the strings have only the first pieces, lest hardly any be a pattern's string.
		few := 13 + i%2*(len(pieces)-13)
		for range r.IntN(11) {
			s += pieces[r.IntN(few)]
		}
		if agreeParse(t, s) {
			accepted++
		}
	}
	if accepted < 5000 {
		t.Errorf("only %d patterns' strings", accepted)
	}
}

// P4.1, D3: every byte alone, and every number of a byte.
func TestParseCharacters(t *testing.T) {
	for b := range 256 {
		alone := string([]byte{byte(b)})
		p, e := pattern.Parse(alone)
		if standsForItself(b) {
			expect(t, "Parse of "+alone, p, e, char(byte(b)).postorder(), api.OK)
		} else {
			expect(t, "Parse of "+alone, p, e, nil, api.ErrPattern)
		}
		p, e = pattern.Parse("a" + alone)
		switch {
		case standsForItself(b):
			expect(t, "Parse of a"+alone, p, e, seq(char('a'), char(byte(b))).postorder(), api.OK)
		case b == '*':
			expect(t, "Parse of a*", p, e, repeat(char('a')).postorder(), api.OK)
		default:
			expect(t, "Parse of a"+alone, p, e, nil, api.ErrPattern)
		}
		number := fmt.Sprintf(`\x%02x`, b)
		p, e = pattern.Parse(number)
		expect(t, "Parse of "+number, p, e, char(byte(b)).postorder(), api.OK)
		p, e = pattern.Parse(number + "a")
		expect(t, "Parse of "+number+"a", p, e, seq(char(byte(b)), char('a')).postorder(), api.OK)
		for _, s := range []string{fmt.Sprintf(`\x%x`, b&15), fmt.Sprintf(`\X%02x`, b), fmt.Sprintf(`\%02x`, b), `\` + alone, `\x` + alone, `\x4` + alone, `\x` + alone + "4"} {
			agreeParse(t, s)
		}
		if upper := fmt.Sprintf(`\x%02X`, b); upper != number {
			p, e = pattern.Parse(upper)
			expect(t, "Parse of "+upper, p, e, nil, api.ErrPattern)
		}
	}
}

// P4.1, D3: every pair of bytes in brackets, written by their numbers or as they are.
func TestParseBrackets(t *testing.T) {
	for lo := range 256 {
		for hi := range 256 {
			for _, s := range []string{fmt.Sprintf(`[\x%02x-\x%02x]`, lo, hi), "[" + written(lo) + "-" + written(hi) + "]"} {
				p, e := pattern.Parse(s)
				if lo <= hi {
					expect(t, "Parse of "+s, p, e, bytesTo(lo, hi).postorder(), api.OK)
				} else {
					expect(t, "Parse of "+s, p, e, nil, api.ErrPattern)
				}
			}
		}
	}
}

// P4.1, D3: alternatives and sequences are grouped from the left, and the kinds by how tightly they bind.
func TestParseGroups(t *testing.T) {
	a, b, c, d := char('a'), char('b'), char('c'), char('d')
	for s, x := range map[string]*tree{
		"abc":           seq(seq(a, b), c),
		"a(bc)":         seq(a, seq(b, c)),
		"(ab)c":         seq(seq(a, b), c),
		"a|b|c":         alt(alt(a, b), c),
		"a|(b|c)":       alt(a, alt(b, c)),
		"(a|b)|c":       alt(alt(a, b), c),
		"ab|cd":         alt(seq(a, b), seq(c, d)),
		"a(b|c)d":       seq(seq(a, alt(b, c)), d),
		"ab*":           seq(a, repeat(b)),
		"(ab)*":         repeat(seq(a, b)),
		"a|b*":          alt(a, repeat(b)),
		"(a|b)*":        repeat(alt(a, b)),
		"a**":           repeat(repeat(a)),
		"(a*)*":         repeat(repeat(a)),
		"a*b*|c":        alt(seq(repeat(a), repeat(b)), c),
		"()":            empty(),
		"()*":           repeat(empty()),
		"()()":          seq(empty(), empty()),
		"(())":          empty(),
		"a()|()b":       alt(seq(a, empty()), seq(empty(), b)),
		"((a))":         a,
		"((a)(b))":      seq(a, b),
		"[a-b]*":        repeat(bytesTo('a', 'b')),
		"[a-a]":         a,
		`\x61`:          a,
		`[\x61-c]d`:     seq(bytesTo('a', 'c'), d),
		`\x2a*`:         repeat(char('*')),
		`[\x28-\x29]`:   bytesTo('(', ')'),
		`\x5cx41`:       seq(seq(seq(char('\\'), char('x')), char('4')), char('1')),
		"!~+?.^$/{},:;": seq(seq(seq(seq(seq(seq(seq(seq(seq(seq(seq(seq(char('!'), char('~')), char('+')), char('?')), char('.')), char('^')), char('$')), char('/')), char('{')), char('}')), char(',')), char(':')), char(';')),
	} {
		p, e := pattern.Parse(s)
		expect(t, "Parse of "+s, p, e, x.postorder(), api.OK)
	}
}

// P4.1, D3: what is no pattern's string.
func TestParseSyntax(t *testing.T) {
	for _, s := range []string{
		"", " ", "a ", " a", "a b", "|", "||", "a|", "|a", "a||b", "(|a)", "(a|)", "*", "*a", "a|*", "(*)", "(", ")", "(a", "a)", "((a)", "(a))", ")(", "(a)(", "(a|b", "()(", "())",
		"-", "a-b", "[", "]", "[]", "[-]", "[a]", "[a-]", "[-a]", "[a-b", "a-b]", "[a-b]]", "[[a-b]]", "[ab]", "[a-bc]", "[a--]", "[--a]", "[a-b-c]", "[(-)]", "[*-*]", "[a-|]", "[[-]]", "[a-b)", "(a-b)", "[a*-b]", "[()-a]", "[(a)-b]", "[b-a]", `[\xff-\x00]`, "[z-A]", `[\x62-a]`,
		`\`, `\\`, `\a`, `\n`, `\(`, `\x`, `\x4`, `\x4G`, `\xg4`, `\xAB`, `\xaB`, `\x-1`, `\x+1`, `\x 1`, `\x0x`, `\X41`, `\u0041`, `\x4é`, `\x4)`, `a\x`, `[\x4-b]`, `[\x4`, `a\`, `(\)`,
		"\n", "a\n", "\t", "\x00", "a\x7f", "\x80", "\xff", "é", "aé", "[a-é]", "日本", "\u2028", "a\u00a0", "\ufffd",
	} {
		p, e := pattern.Parse(s)
		expect(t, "Parse of "+s, p, e, nil, api.ErrPattern)
		for _, longer := range []string{"(" + s, s + ")", "(" + s + ")", s + "*", "a" + s, s + "a", "a|" + s} {
			agreeParse(t, longer)
		}
	}
}

// P4.1, D3: strings and patterns at their limits, and the order of the errors.
func TestParseLimits(t *testing.T) {
	a := strings.Repeat("a", 9000)
	open, closed := strings.Repeat("(", 5000), strings.Repeat(")", 5000)
	star := strings.Repeat("*", 9000)
	for _, x := range []struct {
		s     string
		nodes int // or 0, with an error
		e     api.Errno
	}{
		{a[:256], 511, api.OK},
		{a[:256] + "*", 512, api.OK},
		{a[:257], 0, api.ErrLarge},
		{a[:256] + "**", 0, api.ErrLarge},
		{"a" + star[:511], 512, api.OK},
		{"a" + star[:512], 0, api.ErrLarge},
		{"a" + strings.Repeat("|b", 255), 511, api.OK},
		{"a" + strings.Repeat("|b", 256), 0, api.ErrLarge},
		{a[:300] + ")", 0, api.ErrPattern},
		{"(" + a[:300], 0, api.ErrPattern},
		{a[:300] + "|", 0, api.ErrPattern},
		{a[:300] + "é", 0, api.ErrPattern},
		{a[:300] + "[b-a]", 0, api.ErrPattern},
		{open[:4095] + "aa" + closed[:4095], 3, api.OK},
		{open[:4096] + "a" + closed[:4095], 0, api.ErrPattern},
		{open[:4096] + closed[:4096], 1, api.OK},
		{open[:4096] + "a" + closed[:4096], 0, api.ErrLarge},
		{open + "a", 0, api.ErrPattern},
		{a[:8192], 0, api.ErrLarge},
		{a[:8191] + ")", 0, api.ErrPattern},
		{a[:8192] + ")", 0, api.ErrLarge},
		{"a" + star[:8191], 0, api.ErrLarge},
		{star[:8192], 0, api.ErrPattern},
		{star[:8193], 0, api.ErrLarge},
		{strings.Repeat("é", 4096), 0, api.ErrPattern},
		{strings.Repeat("é", 4097), 0, api.ErrLarge},
	} {
		p, e := pattern.Parse(x.s)
		if e != x.e || len(p) != x.nodes || e == api.OK && pattern.Check(p) != api.OK {
			t.Errorf("Parse of %d bytes from %.5q: %d nodes, %v, want %d, %v", len(x.s), x.s, len(p), e, x.nodes, x.e)
		}
	}
}
