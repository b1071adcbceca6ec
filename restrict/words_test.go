package restrict_test

import (
	"math"
	"testing"

	"koine/api"
)

// textAt returns a plain text whose words begin at some offsets and have one byte each.
func textAt(end int, offsets ...int) api.Plain {
	p := api.Plain{End: end, Stuck: -1}
	for _, i := range offsets {
		p.Words = append(p.Words, api.Word{From: i, To: i + 1})
	}
	return p
}

// A found is what Words returns.
type found struct {
	first, last int
	ok          bool
}

// expectWords fails unless there are some words between two gaps.
func expectWords(t *testing.T, p api.Plain, from, to int, want found) {
	t.Helper()
	first, last, ok := between(t, p, from, to)
	if (found{first, last, ok}) != want {
		t.Errorf("Words of %v from %d to %d: %d, %d, %v, want %v", p, from, to, first, last, ok, want)
	}
}

// TestExampleWords is example 4 of the chapter (N3).
func TestExampleWords(t *testing.T) {
	p := plainOf(blocks(), 0, "x x")
	p.End = 3
	expectWords(t, p, 0, 3, found{0, 1, true})
	expectWords(t, p, 0, 0, found{})
	expectWords(t, p, 1, 3, found{})
}

// TestWords has all pairs of offsets around a text (N3).
func TestWords(t *testing.T) {
	gaps := map[int]int{2: 0, 3: 1, 7: 2, 9: 3}
	p := textAt(9, 2, 3, 7)
	for from := -3; from < 14; from++ {
		for to := -3; to < 14; to++ {
			i, is := gaps[from]
			j, also := gaps[to]
			want := found{}
			if is && also && i < j {
				want = found{i, j - 1, true}
			}
			expectWords(t, p, from, to, want)
		}
	}
	for _, i := range []int{math.MinInt64, math.MaxInt64} {
		expectWords(t, p, i, 9, found{})
		expectWords(t, p, 2, i, found{})
	}
}

// TestNoWordsBetween has texts without words, whose only gap is their end (N3).
func TestNoWordsBetween(t *testing.T) {
	for _, end := range []int{0, 4, -1} {
		for from := -2; from < 6; from++ {
			for to := -2; to < 6; to++ {
				expectWords(t, textAt(end), from, to, found{})
			}
		}
	}
}

// TestSameOffsets has several gaps with the same offset, of which the first one counts (N3).
func TestSameOffsets(t *testing.T) {
	p := textAt(8, 1, 4, 4, 4, 6, 8)
	expectWords(t, p, 1, 4, found{0, 0, true})
	expectWords(t, p, 4, 6, found{1, 3, true})
	expectWords(t, p, 4, 4, found{})
	expectWords(t, p, 6, 8, found{4, 4, true})
	expectWords(t, p, 1, 8, found{0, 4, true})
	expectWords(t, p, 8, 8, found{})
	// The end is the offset of an earlier gap.
	p = textAt(4, 1, 4, 6)
	expectWords(t, p, 1, 4, found{0, 0, true})
	expectWords(t, p, 1, 6, found{0, 1, true})
	expectWords(t, p, 4, 6, found{1, 1, true})
	expectWords(t, p, 6, 4, found{})
}

// TestWrongOrder has gaps in the wrong order: their numbers count, and not their offsets (N3).
func TestWrongOrder(t *testing.T) {
	p := textAt(3, 9, 5, 7)
	for _, test := range []struct {
		from, to int
		want     found
	}{
		{9, 5, found{0, 0, true}}, {9, 7, found{0, 1, true}}, {9, 3, found{0, 2, true}}, {5, 7, found{1, 1, true}}, {5, 3, found{1, 2, true}}, {7, 3, found{2, 2, true}},
		{5, 9, found{}}, {7, 9, found{}}, {3, 9, found{}}, {7, 5, found{}}, {3, 5, found{}}, {3, 7, found{}},
	} {
		expectWords(t, p, test.from, test.to, test.want)
	}
}

// TestUnusable has plain texts that are not usable for any grammar (N3).
func TestUnusable(t *testing.T) {
	p := textAt(5, 0, 2)
	p.Stuck = 1
	expectWords(t, p, 0, 5, found{0, 1, true})
	p = textAt(-7, -3, math.MinInt64, math.MaxInt64)
	p.Words[1].To, p.Words[2].To = math.MaxInt64, -1
	p.Words[0].Tokens = []int{-1, -1}
	expectWords(t, p, -3, -7, found{0, 2, true})
	expectWords(t, p, math.MinInt64, math.MaxInt64, found{1, 1, true})
	expectWords(t, p, math.MaxInt64, math.MinInt64, found{})
	// The ends of words, and remarks, are no gaps.
	p = textAt(9, 0, 4)
	p.Remarks = []api.Word{{From: 2, To: 3}}
	expectWords(t, p, 0, 2, found{})
	expectWords(t, p, 2, 9, found{})
	expectWords(t, p, 0, 1, found{})
	expectWords(t, p, 5, 9, found{})
}

// TestWordsOfAll compares with the chapter's sentence for random offsets (P14.1, N3).
func TestWordsOfAll(t *testing.T) {
	is := map[bool]int{}
	for k := range uint64(3000) {
		r := seeded(k)
		p := textAt(r.IntN(6) - 2)
		for range r.IntN(10) {
			p.Words = append(p.Words, api.Word{From: r.IntN(6) - 2})
		}
		from, to := r.IntN(6)-2, r.IntN(6)-2
		least := func(offset int) int {
			for i, gap := range gapsOf(p) {
				if gap == offset {
					return i
				}
			}
			return -1
		}
		want := found{}
		if i, j := least(from), least(to); i >= 0 && i < j {
			want = found{i, j - 1, true}
		}
		expectWords(t, p, from, to, want)
		is[want.ok]++
	}
	if is[true] < 300 || is[false] < 1000 {
		t.Errorf("only %v", is)
	}
}
