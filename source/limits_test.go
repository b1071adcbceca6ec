package source_test

import (
	"math/rand/v2"
	"slices"
	"strconv"
	"strings"
	"testing"

	"koine/api"
	"koine/diagram"
	"koine/formula"
	"koine/source"
)

// nested returns lines within n sections.
func nested(n int, lines ...string) []string {
	return slices.Concat(slices.Repeat([]string{"#if A"}, n), lines, slices.Repeat([]string{"#end"}, n))
}

// chain returns files c1 to cn; each one includes the next one, and the last one has some lines.
func chain(n int, lines ...string) []api.File {
	var files []api.File
	for i := 1; i < n; i++ {
		files = append(files, file("c"+strconv.Itoa(i), `#include "c`+strconv.Itoa(i+1)+`"`))
	}
	return append(files, file("c"+strconv.Itoa(n), lines...))
}

// P7.1, G1: as many sections and included files as can be open, and more.
func TestNesting(t *testing.T) {
	const n = api.MaxNesting
	if s := good(t, abc(), []api.File{file("m", nested(n, "x")...)}, "m"); s.Text != "x\n" {
		t.Errorf("as many sections as can be open: %v", s)
	}
	expectRoot(t, api.ErrLarge, n+1, nested(n+1, "x")...)
	expectRoot(t, api.ErrLarge, n+1, nested(n, "#if A")...)
	expectRoot(t, api.ErrDirective, n+1, nested(n, "#if ", "#end")...)
	expectRoot(t, api.ErrDirective, n+1, nested(n, "#include m")...)
	expectRoot(t, api.ErrInclude, n+1, nested(n, `#include "m"`)...)
	expectRoot(t, api.ErrInclude, n+1, nested(n, `#include "n"`)...)
	expectRoot(t, api.ErrDirective, n+2, nested(n, "#else", "#else")...)
	good(t, abc(), []api.File{file("m", nested(n, "#elif B", "#else", "x")...)}, "m")
	again := append(nested(n, "x"), nested(n, "x")...)
	good(t, abc(), []api.File{file("m", again...)}, "m")

	for _, last := range []string{"x", "#end"} {
		files := chain(n+2, last)
		expectPlace(t, "too many included files", abc(), files, "c1", api.ErrLarge, n, 1)
		if last == "x" {
			good(t, abc(), files, "c2")
		} else {
			expectPlace(t, "an error in the last file", abc(), files, "c2", api.ErrUnclosed, n+1, 1)
		}
	}
	for k := range n + 3 {
		files := append([]api.File{file("m", nested(k, `#include "c1"`, "x")...)}, chain(n-k+1, "x")...)
		switch {
		case k <= n-1:
			expectPlace(t, "sections and files", abc(), files, "m", api.ErrLarge, n-k, 1)
			good(t, abc(), append([]api.File{file("m", nested(k, `#include "c1"`, `#include "c1"`)...)}, chain(n-k, "x")...), "m")
		case k == n:
			expectPlace(t, "a file in sections", abc(), files, "m", api.ErrLarge, 0, n+1)
		}
	}
	expectPlace(t, "sections of an included file", abc(), []api.File{file("m", `#include "n"`, "x"), file("n", nested(n, "x")...)}, "m", api.ErrLarge, 1, n)
	good(t, abc(), []api.File{file("m", `#include "n"`, `#include "n"`), file("n", nested(n-1, "x")...)}, "m")
}

// P7.1, G1: a file without text lines is as deep wherever it is included.
func TestSilentNesting(t *testing.T) {
	const n = api.MaxNesting
	for height := 1; height < 12; height++ {
		for _, lines := range [][]string{nil, nested(3), nested(3, "#else"), {`#include "e"`}} {
			for k := n - 20; k <= n; k++ {
				root := slices.Concat(nested(k-10, `#include "c1"`), nested(k, `#include "c1"`, "#elif B", `#include "c1"`), nested(k-3, `#include "c1"`))
				files := slices.Concat([]api.File{file("m", root...)}, chain(height, lines...), []api.File{file("e")})
				agree(t, abc(), files, "m")
			}
		}
	}
}

// R1, G1: files without text lines that include each other many times are read all the same.
func TestSilentBomb(t *testing.T) {
	for _, lines := range [][]string{{"%", "%"}, {"%", "%", "%"}, {"%", "#if A", "#end", "%"}, {"#if A && !B", "%", "#elif B", "%", "#end"}} {
		last := api.MaxNesting
		if len(lines) == 5 {
			last /= 2
		}
		files := chain(last+1, "#if A", "#end")
		for i := range last {
			files[i].Text = strings.ReplaceAll(text(lines...), "%", `#include "c`+strconv.Itoa(i+2)+`"`)
		}
		if s, p := read(t, abc(), files, "c3"); p.E != api.OK || s.Text != "" {
			t.Errorf("files that include each other: %v, %v", s, p)
		}
		files[last].Text = "#else\n"
		expectPlace(t, "an error at the end", abc(), files, "c3", api.ErrUnclosed, last, 1)
	}
	// With a text line there are too many of them.
	files := chain(60, "x")
	for i := range 59 {
		files[i].Text += files[i].Text
	}
	expectPlace(t, "too much text", abc(), files, "c1", api.ErrLarge, 59, 1)
}

// P7.1, G1: as much text as there can be, and more.
func TestMaxText(t *testing.T) {
	whole := strings.Repeat("1234567\n", api.MaxText/8)
	n := api.File{Name: "n", Text: whole}
	if s := good(t, abc(), []api.File{file("m", "#if A", `#include "n"`, "#end"), n}, "m"); s.Text != whole {
		t.Error("as much text as there can be is not the source")
	}
	expectPlace(t, "a line too much", abc(), []api.File{file("m", `#include "n"`, "#if A", "", "#end"), n}, "m", api.ErrLarge, 0, 3)
	expectPlace(t, "a line in front", abc(), []api.File{file("m", "", `#include "n"`), n}, "m", api.ErrLarge, 1, api.MaxText/8)
	expectPlace(t, "a long line in front", abc(), []api.File{file("m", "1234567", `#include "n"`), n}, "m", api.ErrLarge, 1, api.MaxText/8)
	expectPlace(t, "a longer line in front", abc(), []api.File{file("m", "12345678", `#include "n"`), n}, "m", api.ErrLarge, 1, api.MaxText/8-1)
	line := api.File{Name: "n", Text: strings.Repeat("x", api.MaxText-1) + "\n"}
	good(t, abc(), []api.File{file("m", `#include "n"`), line}, "m")
	expectPlace(t, "one line", abc(), []api.File{file("m", "", `#include "n"`), line}, "m", api.ErrLarge, 1, 1)
	expectPlace(t, "a directive behind the text", abc(), []api.File{file("m", `#include "n"`, "#end", ""), line}, "m", api.ErrUnclosed, 0, 2)
}

// P7.1, G1: as many segments as there can be, and more.
func TestMaxSegments(t *testing.T) {
	const n = api.MaxSegments / 2
	var lines []string
	for range n {
		lines = append(lines, "#if A", "", "#end", "")
	}
	if s := good(t, abc(), []api.File{file("m", lines...)}, "m"); len(s.Segments) != api.MaxSegments {
		t.Errorf("%d segments", len(s.Segments))
	}
	if s := good(t, abc(), []api.File{file("m", append(lines, "", "")...)}, "m"); len(s.Segments) != api.MaxSegments {
		t.Errorf("%d segments with a longer one at the end", len(s.Segments))
	}
	expectRoot(t, api.ErrLarge, 4*n+4, append(lines, "", "#if A", "#else", "", "#end")...)
	including := []api.File{file("m", append(lines, `#include "n"`)...), file("n", "#if A", "#end", "x")}
	expectPlace(t, "a segment of an included file", abc(), including, "m", api.ErrLarge, 1, 3)
	including[1].Text = "#if A\n#end\n"
	good(t, abc(), including, "m")
}

// negated returns an expression of a formula with n nodes.
func negated(n int) string { return strings.Repeat("!", n-1) + "A" }

// P7.1, G1: formulas of as many nodes as there can be, and of more.
func TestLargeFormulas(t *testing.T) {
	most, more := negated(api.MaxNodes), negated(api.MaxNodes+1)
	s := good(t, abc(), []api.File{file("m", "#if "+most, "x", "#elif "+most, "y", "#end")}, "m")
	expectSegments(t, s, []api.Segment{{To: 2, At: 5 + len(most)}, {From: 2, To: 4, At: 14 + 2*len(most)}}, "!A", "false")
	expectRoot(t, api.ErrLarge, 1, "#if "+more)
	expectRoot(t, api.ErrLarge, 2, "#if A", "#elif "+more)
	expectRoot(t, api.ErrUnclosed, 1, "#elif "+more)
	expectRoot(t, api.ErrDirective, 3, "#if A", "#else", "#elif "+more)
	expectRoot(t, api.ErrDirective, 1, "#if "+more+" &&")
	expectRoot(t, api.ErrLarge, api.MaxNesting+1, nested(api.MaxNesting, "#if "+more)...)
}

// wide returns an expression over 2n conditions whose set has about 2^n branches.
func wide(names []string, n int) string {
	var parts []string
	for i := range n {
		parts = append(parts, names[i]+" && "+names[i+n])
	}
	return strings.Join(parts, " || ")
}

func manyNames(n int) []string {
	var names []string
	for i := range n {
		names = append(names, "C"+strconv.Itoa(i))
	}
	return names
}

// P7.1, G1, R9: sets with too many branches.
func TestLargeSets(t *testing.T) {
	names := manyNames(api.MaxConditions)
	tooWide := wide(names, 14)
	for line, lines := range map[int][]string{
		1: {"#if " + tooWide, "x", "#end"},
		2: {"#if C63", "#elif " + tooWide, "x", "#end"},
		5: {"#if C63", "#include \"n\"", "#if C62", "#end", "#elif " + tooWide, "x", "#end"},
	} {
		expectPlace(t, "a formula", names, []api.File{file("m", lines...), file("n", "x")}, "m", api.ErrLarge, 0, line)
	}
	// Each formula is small, but not their conjunction, nor what is left.
	var lines, branches []string
	for i := range 14 {
		sum := "(" + names[i] + " || " + names[i+14] + ")"
		lines = append(lines, "#if "+sum)
		branches = append(branches, "#elif !"+sum)
	}
	branches[0] = "#if " + branches[0][len("#elif "):]
	_, p := read(t, names, []api.File{file("m", append(lines, "x")...)}, "m")
	if p.E != api.ErrLarge || p.File != 0 || p.Line < 10 || p.Line > 14 {
		t.Errorf("sections within sections: %v", p)
	}
	_, p = read(t, names, []api.File{file("m", append(branches, "#else", "x")...)}, "m")
	if p.E != api.ErrLarge || p.File != 0 || p.Line < 10 || p.Line > 15 {
		t.Errorf("a section with many branches: %v", p)
	}
	// With fewer conditions all of this is possible, whatever the sets are.
	s := good(t, names, []api.File{file("m", "#if "+wide(names, 8), "x", "#else", "y", "#end")}, "m")
	for i, g := range s.Segments {
		want := sure(formula.Diagram(sure(formula.Parse(names, []string{wide(names, 8), "!(" + wide(names, 8) + ")"}[i]))))
		if !diagram.Same(g.If, want) {
			t.Errorf("the condition of segment %d is wrong", i)
		}
	}
}

// R9, P7.2: with 14 conditions no set is too large.
func TestFourteen(t *testing.T) {
	r := rand.New(rand.NewPCG(7, 5))
	names := manyNames(14)
	for range 20 {
		var lines, ends []string
		for range 40 {
			var parts []string
			for range 1 + r.IntN(20) {
				part := ""
				for range 1 + r.IntN(5) {
					part += pick(r, "", "!") + names[r.IntN(14)] + " && "
				}
				parts = append(parts, part+"true")
			}
			expression := strings.Join(parts, " || ")
			if len(ends) > 0 && r.IntN(3) > 0 {
				lines = append(lines, "#elif "+expression, "x"+strconv.Itoa(len(lines)))
			} else {
				lines = append(lines, "#if !("+expression+")", "x"+strconv.Itoa(len(lines)))
				ends = append(ends, "#else", "y"+strconv.Itoa(len(ends)), "#end")
			}
		}
		files := []api.File{file("m", append(lines, ends...)...)}
		s := good(t, names, files, "m")
		for range 30 {
			c := api.Config(r.IntN(1 << 14))
			if got, want := source.Select(s, c), plainText(names, files, "m", c); got != want {
				t.Fatalf("the text of %d is %q, want %q", c, got, want)
			}
		}
	}
}
