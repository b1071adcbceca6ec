package chart_test

import (
	"slices"
	"strconv"
	"strings"
	"testing"

	"koine/api"
	"koine/chart"
	"koine/diagram"
)

// manyWords returns a text of n words, each of one byte.
func manyWords(n int) string { return strings.Repeat("a", n) + "\n" }

// A manner is a way in which a chart becomes large.
type manner struct {
	name  string
	lines []string
	text  string
	count int                     // of spans, or 0 if there are too many
	next  func(s section) section // the span behind another one
}

// pairs returns the span behind another one if nonterminal 0 derives the words between any two gaps. There are n words of one byte each, and a line feed before the end.
func pairs(n int) func(s section) section {
	return func(s section) section {
		switch {
		case s.to < n-1:
			s.to++
		case s.to < n+1:
			s.to = n + 1
		default:
			s.from++
			s.to = s.from + 1
			if s.to == n {
				s.to++
			}
		}
		return s
	}
}

// J1, J4, R9: charts with as many spans as there can be, and with more.
func TestLargeCharts(t *testing.T) {
	const most = api.MaxForest
	twice := func(s section) section {
		if s.left == 0 {
			return section{1, s.from, s.to}
		}
		return section{0, s.from + 1, s.to + 1}
	}
	for _, m := range []manner{
		{"to the right", []string{"S = a S", "S = a"}, manyWords(1999), 1999000, pairs(1999)},
		{"to the right", []string{"S = a S", "S = a"}, manyWords(2000), 0, nil},
		{"to the left", []string{"S = S a", "S = a"}, manyWords(1999), 1999000, pairs(1999)},
		{"to both sides", []string{"S = S S", "S = a"}, manyWords(700), 245350, pairs(700)},
		{"to the right", []string{"S = a S", "S = a"}, manyWords(api.MaxText - 1), 0, nil},
		{"words", []string{"S = a", "T = a", "S = b"}, "b" + manyWords(most/2), 0, nil},
		{"gaps", []string{"S =", "T ="}, manyWords(most/2 - 1), most, func(s section) section {
			if s.from == most/2-2 && s.left == 1 {
				s.from, s.to = s.from+1, s.to+1
			}
			return twice(s)
		}},
		{"gaps", []string{"S =", "T ="}, manyWords(most / 2), 0, nil},
	} {
		g := grammarOf(0, words("a", "b"), m.lines...)
		x := textScan(g, m.text)
		list, e := chart.Spans(g, x)
		if m.count == 0 {
			_, other := chart.Accepted(g, x)
			if e != api.ErrLarge || other != api.ErrLarge || len(list) > 0 {
				t.Errorf("%s, %d words: %d spans, errors %d and %d", m.name, len(x.Lexemes), len(list), e, other)
			}
			continue
		}
		if e != api.OK || len(list) != m.count {
			t.Errorf("%s, %d words: %d spans, error %d", m.name, len(x.Lexemes), len(list), e)
			continue
		}
		want := section{list[0].Left, list[0].From, list[0].To}
		for i, s := range list {
			if s.Left != want.left || s.From != want.from || s.To != want.to || !diagram.Same(s.If, all()) {
				t.Fatalf("%s, %d words: span %d is %v, want %v", m.name, len(x.Lexemes), i, s, want)
			}
			want = m.next(want)
		}
	}
}

// J1, J4, R9: exactly MaxForest spans, of words.
func TestLargestChart(t *testing.T) {
	g := grammarOf(0, words("a"), "S = a", "T = a")
	x := textScan(g, manyWords(api.MaxForest/2))
	list, e := chart.Spans(g, x)
	if e != api.OK || len(list) != api.MaxForest {
		t.Fatalf("%d spans, error %d", len(list), e)
	}
	for i, s := range list {
		to := i/2 + 1
		if to == api.MaxForest/2 {
			to++
		}
		if s.Left != i%2 || s.From != i/2 || s.To != to {
			t.Fatalf("span %d is %v", i, s)
		}
	}
	if d, e := chart.Accepted(g, x); e != api.OK || !diagram.Same(d, none()) {
		t.Errorf("accepted is %v, error %d", d, e)
	}
}

// J1, J4, R1: long texts with few spans, most of which are long.
func TestLongSpans(t *testing.T) {
	const half = 1 << 16
	for _, lines := range [][]string{{"S = a S b", "S = a b"}, {"S = a T", "T = S b", "T = b"}, {"S = U b", "U = a S", "U = a"}} {
		g := grammarOf(0, words("a", "b"), lines...)
		x := textScan(g, strings.Repeat("a", half)+strings.Repeat("b", half)+"\n")
		list, e := chart.Spans(g, x)
		if e != api.OK || len(list) < half {
			t.Fatalf("%d spans, error %d", len(list), e)
		}
		if d, e := chart.Accepted(g, x); e != api.OK || !diagram.Same(d, all()) {
			t.Errorf("accepted is %v, error %d", d, e)
		}
		count := 0
		for _, s := range list {
			if s.Left == 0 {
				to := 2*half - count
				if count == 0 {
					to++
				}
				if s.From != count || s.To != to {
					t.Fatalf("span %d is %v", count, s)
				}
				count++
			}
		}
		if count != half {
			t.Errorf("%d spans", count)
		}
	}
	g := grammarOf(0, words("a", "b"), "S = a S", "S = b")
	x := textScan(g, strings.Repeat("a", 2*half)+"b\n")
	if list, e := chart.Spans(g, x); e != api.OK || len(list) != 2*half+1 || list[half].From != half || list[half].To != x.End {
		t.Errorf("%d spans, error %d", len(list), e)
	}
}

// J1, R9: as many nonterminals, productions and symbols as there can be.
func TestLargeGrammars(t *testing.T) {
	var chain []string
	for i := range api.MaxProductions - 1 {
		chain = append(chain, "N"+strconv.Itoa(i)+" = N"+strconv.Itoa(i+1))
	}
	g := grammarOf(0, words("a"), append(chain, "N"+strconv.Itoa(len(chain))+" = a")...)
	list, e := chart.Spans(g, textScan(g, manyWords(1000)))
	if e != api.OK || len(list) != 1000*api.MaxProductions {
		t.Errorf("a chain: %d spans, error %d", len(list), e)
	}
	if _, e := chart.Spans(g, textScan(g, manyWords(1001))); e != api.ErrLarge {
		t.Errorf("a longer chain: error %d", e)
	}
	// Right sides of symbols that all are nullable.
	long := "S =" + strings.Repeat(" N", api.MaxSymbols)
	g = grammarOf(0, words("a"), long, "N = a", "N =")
	list = goodSpans(t, g, textScan(g, manyWords(40)))
	count := 0
	for from := range 41 {
		count += min(41-from, api.MaxSymbols+1) + min(41-from, 2)
	}
	if len(list) != count {
		t.Errorf("a long right side: %d spans, want %d", len(list), count)
	}
	// Productions of which only one fits.
	var many []string
	for i := range api.MaxProductions - 1 {
		many = append(many, "S = a"+strings.Repeat(" a", i%15)+" b :: "+[]string{"A", "!A"}[i/15%2])
	}
	g = grammarOf(1, words("a", "b"), append(many, "S = b b")...)
	expectSpans(t, g, textScan(g, "aabb\n"), span(0, 0, 3, all()), span(0, 1, 3, all()), span(0, 2, 5, all()))
}

// optional returns a scan of n words of one byte, each in the configurations of a set.
func optional(n int, where func(i int) api.Diagram) api.Scan {
	x := api.Scan{Good: all(), End: n}
	for i := range n {
		x.Lexemes = append(x.Lexemes, lexeme(i, i+1, where(i), 0))
	}
	return x
}

// J1, J3, J4, R9: 14 conditions never are too many.
func TestFourteenConditions(t *testing.T) {
	g := grammarOf(14, words("a"), "S = a S", "S =")
	x := optional(140, func(i int) api.Diagram { return is(i % 14) })
	list := goodSpans(t, g, x)
	for _, s := range list {
		want := is(s.From % 14)
		if s.From == x.End {
			want = all()
		}
		if s.To < x.End {
			want = and(want, is(s.To%14))
		}
		if !diagram.Same(s.If, want) {
			t.Fatalf("%v, want %v", s, want)
		}
	}
	if len(list) != 141*142/2 {
		t.Errorf("%d spans", len(list))
	}
	expectAccepted(t, g, x, all())
	// What is behind a word depends on pairs of conditions.
	g = grammarOf(14, words("a"), "S = a a", "S = T", "T = a")
	x = optional(8, func(i int) api.Diagram {
		if i == 0 {
			return all()
		}
		return and(is(i-1), is(i+6))
	})
	rest := all()
	list = goodSpans(t, g, x)
	for i := 1; i <= 8; i++ {
		where := rest
		if i < 8 {
			where = and(rest, x.Lexemes[i].If)
			rest = and(rest, not(x.Lexemes[i].If))
		}
		expectFound(t, list, 1, 0, i, where)
	}
	x.Lexemes = x.Lexemes[1:]
	if beginnings, e := start(t, x); e != api.OK || len(beginnings) != 8 || !diagram.Same(beginnings[7].If, rest) {
		t.Errorf("%d beginnings, error %d", len(beginnings), e)
	}
}

// J1, J3, J4: each configuration has a word of its own.
func TestOwnWords(t *testing.T) {
	const n = 14
	g := grammarOf(n, words("a"), "S = a")
	x := optional(1<<n, func(i int) api.Diagram {
		d := all()
		for v := n - 1; v >= 0; v-- {
			one := is(v)
			if i>>v&1 == 0 {
				one = not(one)
			}
			d = and(one, d)
		}
		return d
	})
	slices.Reverse(x.Lexemes)
	beginnings, e := chart.Start(x)
	if e != api.OK || len(beginnings) != 1<<n {
		t.Fatalf("%d beginnings, error %d", len(beginnings), e)
	}
	slices.Reverse(x.Lexemes)
	list, e := chart.Spans(g, x)
	if e != api.OK || len(list) != 1<<n {
		t.Fatalf("%d spans, error %d", len(list), e)
	}
	for i, s := range list {
		if !sameSpan(s, span(0, i, x.End, x.Lexemes[i].If)) || !sameSpan(beginnings[i], span(-1, i, x.End, s.If)) {
			t.Fatalf("span %d is %v, beginning %v", i, s, beginnings[i])
		}
	}
	if d, e := chart.Accepted(g, x); e != api.OK || !diagram.Same(d, all()) {
		t.Errorf("accepted is %v, error %d", d, e)
	}
}

// J1, J3, J4, R9: with more than 14 conditions, sets can be too large, or not.
func TestManyConditions(t *testing.T) {
	const n = api.MaxConditions
	g := grammarOf(n, words("a"), "S = a S", "S = a")
	x := optional(n, is)
	list := goodSpans(t, g, x)
	if len(list) != n*(n+1)/2 {
		t.Errorf("%d spans", len(list))
	}
	for _, s := range list {
		want := is(s.From)
		if s.To < n {
			want = and(want, is(s.To))
		}
		if !diagram.Same(s.If, want) {
			t.Fatalf("%v, want %v", s, want)
		}
	}
	some := none()
	for v := range n {
		some = or(some, is(v))
	}
	expectAccepted(t, g, x, some)
	// Which word is the first one depends on 15 pairs of conditions.
	x = optional(15, func(i int) api.Diagram { return and(is(i), is(i+15)) })
	if _, e := start(t, x); e != api.ErrLarge {
		t.Errorf("Start: error %d", e)
	}
	if _, e := accepted(t, g, x); e != api.ErrLarge {
		t.Errorf("Accepted: error %d", e)
	}
	if _, e := spans(t, g, x); e != api.OK && e != api.ErrLarge {
		t.Errorf("Spans: error %d", e)
	}
	// So does what is behind a word, unless no production has it.
	x.Lexemes[0] = lexeme(0, 1, all(), 0)
	if _, e := spans(t, g, x); e != api.ErrLarge {
		t.Errorf("Spans: error %d", e)
	}
	g = grammarOf(n, words("a", "b"), "S = b", "S =")
	list = goodSpans(t, g, x)
	if len(list) != 16 || !sameSpan(list[3], span(0, 3, 3, x.Lexemes[3].If)) {
		t.Errorf("the chart is %v", list)
	}
	x.Lexemes = x.Lexemes[1:]
	x.Lexemes[0] = lexeme(1, 2, and(is(0), is(15)), 0)
	if _, e := accepted(t, g, x); e != api.ErrLarge {
		t.Errorf("Accepted: error %d", e)
	}
}

// J1, R9: between two words, many others whose sets have a union that is too large, but that no configuration of these words has.
func TestOtherWords(t *testing.T) {
	g := grammarOf(api.MaxConditions, words("a"), "S = a", "S = a a")
	x := optional(33, func(i int) api.Diagram {
		if i%32 == 0 {
			return is(63)
		}
		return and(and(is(i-1), is(i+30)), not(is(63)))
	})
	for i := range 31 {
		x.Lexemes[i+1].Choices = nil
	}
	expectSpans(t, g, x, span(0, 0, 32, is(63)), span(0, 0, 33, is(63)), span(0, 32, 33, is(63)))
}
