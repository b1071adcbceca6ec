package pattern_test

import (
	"math/rand/v2"
	"strings"
	"testing"

	"koine/api"
	"koine/pattern"
)

// agreeMatch fails unless Matches says of a string, and Longest at all of its offsets, what the meaning of a tree says. p is a pattern of the tree.
func agreeMatch(t *testing.T, x *tree, p api.Pattern, s string) {
	t.Helper()
	if got := pattern.Matches(p, s); got != x.matches(s) {
		t.Fatalf("Matches(%v, %q) = %v", p, s, got)
	}
	for at := range len(s) + 1 {
		n := 0
		for to := at + 1; to <= len(s); to++ {
			if x.matches(s[at:to]) {
				n = to - at
			}
		}
		expectLength(t, p, s, at, n)
	}
}

// P4.1, P4.2, P4.3, D4: all trees with up to five nodes, and all strings of up to three bytes.
func TestMatchSmall(t *testing.T) {
	l := stringsOf("abc", 3)
	for n := 1; n <= 5; n++ {
		for _, x := range small(n) {
			p := x.postorder()
			for _, s := range l {
				agreeMatch(t, x, p, s)
			}
		}
	}
}

// P4.1, P4.2, P4.3, D4: random trees, whose nodes are in a random order.
func TestMatchRandom(t *testing.T) {
	r := rand.New(rand.NewPCG(4, 5))
	matched := 0
	for range 2000 {
		x := random(r, 1+r.IntN(30), letters(r))
		p := x.shuffled(r)
		for range 8 {
			s := randomString(r, "abcde", r.IntN(8))
			agreeMatch(t, x, p, s)
			if x.matches(s) {
				matched++
			}
		}
	}
	if matched < 1000 {
		t.Errorf("only %d matches", matched)
	}
}

// words returns a random word of a tree; repetitions have up to two parts.
func (x *tree) word(r *rand.Rand) string {
	switch x.kind {
	case api.PatternRange:
		return string([]byte{byte(x.lo + r.IntN(x.hi-x.lo+1))})
	case api.PatternSeq:
		return x.a.word(r) + x.b.word(r)
	case api.PatternAlt:
		if r.IntN(2) == 0 {
			return x.a.word(r)
		}
		return x.b.word(r)
	case api.PatternRepeat:
		s := ""
		for range r.IntN(3) {
			s += x.a.word(r)
		}
		return s
	}
	return ""
}

// P4.1, P4.2, P4.3, D4: words of trees over all bytes, and words in which one byte is changed.
func TestMatchWords(t *testing.T) {
	r := rand.New(rand.NewPCG(4, 6))
	for range 3000 {
		x := random(r, 1+r.IntN(40), anyBytes(r))
		p := x.shuffled(r)
		s := x.word(r)
		if len(s) > 20 {
			continue
		}
		if !pattern.Matches(p, s) {
			t.Fatalf("%v does not match %q", p, s)
		}
		agreeMatch(t, x, p, s)
		if s != "" {
			changed := []byte(s)
			changed[r.IntN(len(s))] += byte(1 + r.IntN(255))
			agreeMatch(t, x, p, string(changed))
		}
	}
}

// P4.2: what a sequence, an alternative and a repetition match, said by what their operands match.
func TestMeaning(t *testing.T) {
	r := rand.New(rand.NewPCG(4, 7))
	for range 3000 {
		x, y := random(r, 1+r.IntN(10), letters(r)), random(r, 1+r.IntN(10), letters(r))
		p, q, rep := x.postorder(), y.postorder(), repeat(x).postorder()
		s := x.word(r) + y.word(r)
		if len(s) > 12 {
			s = randomString(r, "abcd", 6)
		}
		divided, repeated := false, s == ""
		for at := range len(s) + 1 {
			divided = divided || pattern.Matches(p, s[:at]) && pattern.Matches(q, s[at:])
			repeated = repeated || at > 0 && pattern.Matches(p, s[:at]) && pattern.Matches(rep, s[at:])
		}
		if pattern.Matches(seq(x, y).shuffled(r), s) != divided {
			t.Fatalf("Matches of the sequence of %v and %v, %q is not %v", p, q, s, divided)
		}
		if pattern.Matches(alt(x, y).shuffled(r), s) != (pattern.Matches(p, s) || pattern.Matches(q, s)) {
			t.Fatalf("Matches of the alternative of %v and %v, %q", p, q, s)
		}
		if pattern.Matches(rep, s) != repeated {
			t.Fatalf("Matches(%v, %q) is not %v", rep, s, repeated)
		}
	}
}

// P4.3: the reported bytes are matched, no longer ones are, and appending bytes does not make the result smaller.
func TestLongestAppend(t *testing.T) {
	r := rand.New(rand.NewPCG(4, 8))
	for range 2000 {
		p := random(r, 1+r.IntN(25), letters(r)).shuffled(r)
		s := randomString(r, "abcd", 12)
		at := r.IntN(4)
		before := 0
		for to := at; to <= len(s); to++ {
			n, ok := pattern.Longest(p, s[:to], at)
			if ok != (n > 0) || n < before {
				t.Fatalf("Longest(%v, %q, %d) = %d, %v after %d", p, s[:to], at, n, ok, before)
			}
			if ok && !pattern.Matches(p, s[at:at+n]) {
				t.Fatalf("Longest(%v, %q, %d) = %d", p, s[:to], at, n)
			}
			for longer := n + 1; at+longer <= to; longer++ {
				if pattern.Matches(p, s[at:at+longer]) {
					t.Fatalf("Longest(%v, %q, %d) = %d, not %d", p, s[:to], at, n, longer)
				}
			}
			before = n
		}
	}
}

// P4.1, D4: Longest goes on behind a match that no longer match continues for a while, and has no empty matches.
func TestLongest(t *testing.T) {
	for _, x := range []struct {
		pattern, s string
		at, n      int
	}{
		{"a|abcd", "abcd", 0, 4},
		{"a|abcd", "abce", 0, 1},
		{"a|abcd", "abc", 0, 1},
		{"abcd|a", "xabcdx", 1, 4},
		{"(ab)*", "ababa", 0, 4},
		{"(ab)*", "ababa", 1, 0},
		{"(ab)*", "ababa", 4, 0},
		{"()", "a", 0, 0},
		{"()|a", "ba", 0, 0},
		{"()|a", "ba", 1, 1},
		{"()|a", "ba", 2, 0},
		{"a*", "", 0, 0},
		{"a*", "aaa", 0, 3},
		{"a*", "aaa", 3, 0},
		{"a*a*", "aaab", 0, 3},
		{"a*b", "aaa", 0, 0},
		{"(a|ab)(c|bcd)", "abcd", 0, 4},
		{`[\x00-\xff]([\x00-\xff])*`, "\n\xff\x00é", 0, 5},
		{`[\x80-\xff]`, "é", 1, 1},
	} {
		expectLength(t, must(t, x.pattern), x.s, x.at, x.n)
	}
}

// P4.1, D4: an offset is from 0 to the length of the string.
func TestLongestOffsets(t *testing.T) {
	p := must(t, "a*")
	for _, at := range []int{-1, -2, 4, 5, 1 << 40, -1 << 63, 1<<63 - 1} {
		expectLength(t, p, "aaa", at, 0)
	}
	for at := range 4 {
		expectLength(t, p, "aaa", at, 3-at)
	}
}

// P4.1, D4: a range matches the bytes from its first to its last one.
func TestMatchBytes(t *testing.T) {
	all := allBytes()
	edges := []int{0, 1, 9, 10, 63, 64, 65, 127, 128, 129, 191, 192, 193, 254, 255}
	for _, lo := range edges {
		for _, hi := range edges {
			if hi < lo {
				continue
			}
			p := bytesTo(lo, hi).postorder()
			for b := range all {
				in := lo <= b && b <= hi
				if pattern.Matches(p, all[b:b+1]) != in {
					t.Fatalf("Matches of the range from %d to %d: %d", lo, hi, b)
				}
				n := 0
				if in {
					n = 1
				}
				expectLength(t, p, all, b, n)
			}
		}
	}
}

// P4.1, D4: all places of a pattern with as many as there can be.
func TestMatchPlaces(t *testing.T) {
	all := allBytes()
	x, ladder := char(all[0]), char(all[0])
	for i := 1; i < 256; i++ {
		x, ladder = alt(x, char(all[i])), seq(ladder, alt(char(all[i]), empty()))
		if i == 127 {
			p := ladder.postorder() // 509 nodes: the bytes 0 to 127 in ascending order, of which all but the first can be left out
			for b := 1; b < 127; b++ {
				s := all[:b] + all[b+1:128]
				if !pattern.Matches(p, s) || pattern.Matches(p, s[1:]) || pattern.Matches(p, s+all[b:b+1]) {
					t.Fatalf("a chain without %d", b)
				}
			}
		}
	}
	p := x.postorder()
	many := repeat(x).postorder()
	if len(p) != api.MaxNodes-1 || len(many) != api.MaxNodes {
		t.Fatalf("%d and %d nodes", len(p), len(many))
	}
	for b := range all {
		if !pattern.Matches(p, all[b:b+1]) || pattern.Matches(p, all[b:b+1]+"x") {
			t.Fatalf("byte %d", b)
		}
	}
	if !pattern.Matches(many, all+all) || pattern.Matches(p, all) {
		t.Error("all bytes")
	}
	expectLength(t, many, all+all, 100, 412)
}

// P4.1, D4: patterns with nested repetitions, and long strings.
func TestMatchLong(t *testing.T) {
	long := strings.Repeat("a", api.MaxText)
	p := stars(api.MaxNodes)
	if !pattern.Matches(p, "") || !pattern.Matches(p, "aaa") || pattern.Matches(p, "aab") {
		t.Error("many repetitions")
	}
	expectLength(t, p, long, 0, len(long))
	for _, s := range []string{"(a|b|ab)*", "((a*)*)*", "((a|a)(a|a)*)*", "(()|a)*"} {
		p := must(t, s)
		if !pattern.Matches(p, long) || pattern.Matches(p, long+"c") {
			t.Error(s)
		}
		expectLength(t, p, long+"c", 1, len(long)-1)
	}
	p = must(t, strings.Repeat("(a|())", 85)+strings.Repeat("a", 85)) // 509 nodes
	for n := range 200 {
		if pattern.Matches(p, long[:n]) != (n >= 85 && n <= 170) {
			t.Errorf("%d bytes", n)
		}
	}
}
