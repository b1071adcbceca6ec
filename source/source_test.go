package source_test

import (
	"math/rand/v2"
	"reflect"
	"strings"
	"testing"

	"koine/api"
	"koine/diagram"
	"koine/source"
)

// exampleFiles returns the files of the chapter's examples.
func exampleFiles() []api.File {
	return []api.File{
		file("m", "one", "#if A && !B", "two", "#elif B", `#include "n"`, "#else", "four", "#end", "five"),
		file("n", "three"),
	}
}

// P7.1: the chapter's examples.
func TestExamples(t *testing.T) {
	files := exampleFiles()
	ab := abc()[:2]
	s := good(t, ab, files, "m")
	if s.Text != "one\ntwo\nthree\nfour\nfive\n" {
		t.Errorf("the text %q", s.Text)
	}
	expectSegments(t, s, []api.Segment{
		{From: 0, To: 4, File: 0, At: 0}, {From: 4, To: 8, File: 0, At: 16}, {From: 8, To: 14, File: 1, At: 0}, {From: 14, To: 19, File: 0, At: 47}, {From: 19, To: 24, File: 0, At: 57},
	}, "true", "A && !B", "B", "!A && !B", "true")
	if x := source.Select(s, 1); x != "one\ntwo\nfive\n" {
		t.Errorf("Select for A: %q", x)
	}
	expectOffset(t, s, source.Local, 1, 19, 8, true)
	expectOffset(t, s, source.Global, 1, 8, 19, true)
	expectOffset(t, s, source.Local, 1, 8, 0, false)
	if f, at, ok := source.Origin(s, 9); f != 1 || at != 1 || !ok {
		t.Errorf("Origin of 9: %d, %d, %v", f, at, ok)
	}
	if dead, e := source.Dead(s, set("B")); !reflect.DeepEqual(dead, []int{1, 3}) || e != api.OK {
		t.Errorf("Dead of B: %v, %v", dead, e)
	}
	files[1] = file("n", `#include "m"`)
	expectPlace(t, "a file that includes the root", ab, files, "m", api.ErrInclude, 1, 1)
	files[0].Text = strings.Replace(exampleFiles()[0].Text, "#end\n", "", 1)
	files[1] = exampleFiles()[1]
	expectPlace(t, "without #end", ab, files, "m", api.ErrUnclosed, 0, 2)
}

// expectOffset fails unless Local or Global returns an offset.
func expectOffset(t *testing.T, s api.Source, f func(api.Source, api.Config, int) (int, bool), c api.Config, at, want int, ok bool) {
	t.Helper()
	if n, is := f(s, c, at); n != want || is != ok {
		t.Errorf("offset %d in configuration %d: %d, %v, want %d, %v", at, c, n, is, want, ok)
	}
}

// P7.1, G1, P7.2: random files, with errors and without them.
func TestReadRandom(t *testing.T) {
	g := generator{Rand: rand.New(rand.NewPCG(7, 1))}
	sources := 0
	for i := range 12000 {
		if agree(t, abc()[:1+g.IntN(3)], g.randomFiles(i%5), nameOf(0)) {
			sources++
		}
	}
	if sources < 2000 {
		t.Errorf("only %d sources", sources)
	}
}

// P7.1, G1: all sequences of up to six lines.
func TestReadSmall(t *testing.T) {
	vocabulary := []string{"x", "#if A", "#elif B", "#else", "#end", `#include "f1"`}
	for _, included := range []api.File{file("f1"), file("f1", "y", "#if B", "z", "#end"), file("f1", "#else")} {
		var extend func(lines string, more int)
		extend = func(lines string, more int) {
			agree(t, abc()[:2], []api.File{{Name: "f0", Text: lines}, included}, "f0")
			if more == 0 {
				return
			}
			for _, line := range vocabulary {
				extend(lines+line+"\n", more-1)
			}
		}
		extend("", 6)
	}
}

// P7.1, G1: any line stands alone, is the last one of a branch, and is that of a file that is included.
func TestReadLines(t *testing.T) {
	g := generator{Rand: rand.New(rand.NewPCG(7, 2)), files: 1}
	for range 3000 {
		line := pick(g.Rand, g.textOf(), g.malformed(), "#if "+g.expression(), "#elif "+g.expression(), includeOf(g.IntN(3)))
		for _, lines := range [][]string{{line}, {"a", line, "b"}, {"#if A", line, "#end"}, {"#if A", "#else", line, "#end"}} {
			agree(t, abc(), []api.File{file("f0", lines...), file("f1", "x")}, "f0")
			agree(t, abc(), []api.File{file("f0", lines...), file("f1", `#include "f0"`)}, "f1")
		}
	}
}

// P7.1, G1: which lines are directives.
func TestText(t *testing.T) {
	lines := []string{"#if", "#elif", "#include", "#else ", "#end ", "#else\r", "#end\r", " #if A", "\t#end", "#if\tA", "#ifdef A", "#elseif A", "#endif", "#IF A", "#include\"n\"", "# if A", "##end", "if A", "", " ", "#", "\x00", "\xff"}
	s := good(t, abc(), []api.File{file("m", lines...)}, "m")
	expectSegments(t, s, []api.Segment{{To: len(text(lines...))}}, "true")
	if s.Text != text(lines...) {
		t.Errorf("the text %q", s.Text)
	}
}

// P7.1, G1: what begins a segment.
func TestSegments(t *testing.T) {
	files := []api.File{
		file("m", "a", `#include "e"`, "b", `#include "n"`, `#include "n"`, "c", "d", "#if true", "#end", "e", "#if A", "f", "#if false", "g", "#end", "#end"),
		file("n", "nn"), file("e"),
	}
	s := good(t, abc(), files, "m")
	expectSegments(t, s, []api.Segment{
		{From: 0, To: 2, At: 0}, {From: 2, To: 4, At: 15}, {From: 4, To: 7, File: 1}, {From: 7, To: 10, File: 1}, {From: 10, To: 14, At: 43}, {From: 14, To: 16, At: 61}, {From: 16, To: 18, At: 69}, {From: 18, To: 20, At: 81},
	}, "true", "true", "true", "true", "true", "true", "A", "false")
	if s = good(t, nil, files[2:], "e"); s.Text != "" || len(s.Segments) > 0 {
		t.Errorf("the source %v of an empty file", s)
	}
	if s = good(t, abc(), []api.File{file("m", "#if A", "#else", "#end")}, "m"); s.Text != "" || len(s.Segments) > 0 {
		t.Errorf("the source %v of a file without text lines", s)
	}
}

// valid returns a valid source of two segments, of 2 and 4 bytes.
func valid() api.Source {
	return api.Source{Text: "a\n\nbc\n", Segments: []api.Segment{{From: 0, To: 2, File: 3, At: 5, If: set("A")}, {From: 2, To: 6, File: 0, At: 1, If: set("!A || B")}}}
}

// defects are changes of a valid source that make it one that is not valid.
func defects() map[string]func(s *api.Source) {
	return map[string]func(s *api.Source){
		"no segments":                      func(s *api.Source) { s.Segments = nil },
		"a segment is missing at the end":  func(s *api.Source) { s.Segments = s.Segments[:1] },
		"one is missing at the beginning":  func(s *api.Source) { s.Segments = s.Segments[1:] },
		"segments in another order":        func(s *api.Source) { s.Segments[0], s.Segments[1] = s.Segments[1], s.Segments[0] },
		"a segment twice":                  func(s *api.Source) { s.Segments = append(s.Segments, s.Segments[1]) },
		"an empty segment":                 func(s *api.Source) { s.Segments = append(s.Segments, api.Segment{From: 6, To: 6, If: all()}) },
		"an empty segment before the rest": func(s *api.Source) { s.Segments[0].To, s.Segments[1].From = 0, 0 },
		"a segment of negative length": func(s *api.Source) {
			s.Segments = append(s.Segments, api.Segment{From: 6, To: 3, If: all()}, api.Segment{From: 3, To: 6, If: all()})
		},
		"a gap":                      func(s *api.Source) { s.Segments[1].From = 3 },
		"an overlap":                 func(s *api.Source) { s.Segments[0].To = 3 },
		"an overlap at a line":       func(s *api.Source) { s.Segments[0].To = 6 },
		"an end within a line":       func(s *api.Source) { s.Segments[0].To, s.Segments[1].From = 1, 1 },
		"a begin before the text":    func(s *api.Source) { s.Segments[0].From = -1 },
		"an end behind the text":     func(s *api.Source) { s.Segments[1].To = 7 },
		"a text without segments":    func(s *api.Source) { s.Text += "\n" },
		"an end within the last one": func(s *api.Source) { s.Text += "x"; s.Segments[1].To++ },
		"a text that is too short":   func(s *api.Source) { s.Text = s.Text[:3] },
		"a negative file":            func(s *api.Source) { s.Segments[0].File = -1 },
		"a negative offset":          func(s *api.Source) { s.Segments[1].At = -1 },
		"an offset that is too large": func(s *api.Source) {
			s.Segments[1].At = api.MaxText - 3
		},
		"an offset that is much too large": func(s *api.Source) { s.Segments[1].At = 1<<63 - 1 },
		"a diagram without a root":         func(s *api.Source) { s.Segments[0].If.Root = 5 },
		"a diagram with a useless branch":  func(s *api.Source) { s.Segments[1].If = api.Diagram{Nodes: []api.Branch{{Var: 0}}, Root: 2} },
		"a diagram with too many branches": func(s *api.Source) {
			s.Segments[1].If = api.Diagram{Nodes: make([]api.Branch, api.MaxBranches+1), Root: api.MaxBranches + 2}
		},
	}
}

// P7.1, G2: each way in which a source is not valid, and what the other functions return for such a source.
func TestInvalid(t *testing.T) {
	if e := source.Check(valid()); e != api.OK {
		t.Fatalf("Check: %v", e)
	}
	for what, change := range defects() {
		s := valid()
		change(&s)
		expectInvalid(t, what, s, api.ErrFile)
	}
	for what, lines := range map[string]int{"too long a text": api.MaxText/8 + 1, "a text at the limit": api.MaxText / 8} {
		s := api.Source{Text: strings.Repeat("1234567\n", lines)}
		s.Segments = []api.Segment{{To: len(s.Text), If: all()}}
		if lines == api.MaxText/8 {
			if e := source.Check(s); e != api.OK {
				t.Errorf("%s: %v", what, e)
			}
			s.Segments[0].At = 1
			expectInvalid(t, what+" that ends behind the limit in its file", s, api.ErrFile)
			continue
		}
		expectInvalid(t, what, s, api.ErrLarge)
		s.Segments[0].File = -1
		expectInvalid(t, what+" and another defect", s, api.ErrLarge)
	}
}

// expectInvalid fails unless all functions return what they return for a source with an error.
func expectInvalid(t *testing.T, what string, s api.Source, want api.Errno) {
	t.Helper()
	if e := source.Check(s); e != want {
		t.Errorf("%s: Check returns %v, want %v", what, e, want)
	}
	for c := range api.Config(4) {
		if x := source.Select(s, c); x != "" {
			t.Errorf("%s: Select returns %q", what, x)
		}
		for _, at := range []int{-1, 0, 1, 2, 3, 6, len(s.Text)} {
			expectOffset(t, s, source.Local, c, at, 0, false)
			expectOffset(t, s, source.Global, c, at, 0, false)
			if f, n, ok := source.Origin(s, at); f != 0 || n != 0 || ok {
				t.Errorf("%s: Origin returns %d, %d, %v", what, f, n, ok)
			}
		}
	}
	for _, family := range []api.Diagram{all(), none(), {Root: 7}} {
		if dead, e := source.Dead(s, family); dead != nil || e != want {
			t.Errorf("%s: Dead returns %v, %v, want %v", what, dead, e, want)
		}
	}
}

// P7.1, G2: how many segments there can be.
func TestCheckSegments(t *testing.T) {
	s := api.Source{Text: strings.Repeat("\n", api.MaxSegments)}
	for i := range api.MaxSegments {
		s.Segments = append(s.Segments, api.Segment{From: i, To: i + 1, At: api.MaxText - 1, If: none()})
	}
	if e := source.Check(s); e != api.OK {
		t.Errorf("Check at the limit: %v", e)
	}
	s.Segments = append(s.Segments, api.Segment{From: len(s.Text), To: len(s.Text) + 1, If: all()})
	s.Text += "\n"
	expectInvalid(t, "too many segments", s, api.ErrLarge)
	s.Segments[5].File = -1
	expectInvalid(t, "too many segments and another defect", s, api.ErrLarge)
}

// P7.1, G3, G4, G5, P7.4: offsets of random sources, compared with a list of the bytes of the text of a configuration.
func TestOffsets(t *testing.T) {
	r := rand.New(rand.NewPCG(7, 3))
	for range 2000 {
		given := randomSource(r, 6)
		s := copyOf(given)
		for range 6 {
			expectOffsets(t, s, api.Config(r.Uint64()))
		}
		expectOrigins(t, s)
		unchanged(t, s, given)
	}
}

func expectOffsets(t *testing.T, s api.Source, c api.Config) {
	t.Helper()
	var offsets []int // of the bytes of the text of c, in the source
	var bytes []byte
	local := make([]int, len(s.Text)) // for each byte of the source, its offset in the text of c, or -1
	for _, g := range s.Segments {
		for at := g.From; at < g.To; at++ {
			local[at] = -1
			if diagram.Holds(g.If, c) {
				local[at] = len(offsets)
				offsets, bytes = append(offsets, at), append(bytes, s.Text[at])
			}
		}
	}
	if x := source.Select(s, c); x != string(bytes) {
		t.Fatalf("Select = %q, want %q", x, bytes)
	}
	for at, n := range local {
		expectOffset(t, s, source.Local, c, at, max(n, 0), n >= 0)
	}
	for at, n := range offsets {
		expectOffset(t, s, source.Global, c, at, n, true)
	}
	expectOffset(t, s, source.Local, c, len(s.Text), len(offsets), true)
	expectOffset(t, s, source.Global, c, len(offsets), len(s.Text), true)
	for _, outside := range []int{-1 << 63, -1, 1, 2, 1<<63 - 1} {
		if outside > 0 {
			expectOffset(t, s, source.Global, c, max(outside, outside+len(offsets)), 0, false)
			outside = max(outside, outside+len(s.Text))
		} else {
			expectOffset(t, s, source.Global, c, outside, 0, false)
		}
		expectOffset(t, s, source.Local, c, outside, 0, false)
	}
}

func expectOrigins(t *testing.T, s api.Source) {
	t.Helper()
	for at := -2; at < len(s.Text)+2; at++ {
		var file, offset int
		found := false
		for _, g := range s.Segments {
			if at >= g.From && at < g.To {
				file, offset, found = g.File, g.At+at-g.From, true
			}
		}
		if f, n, ok := source.Origin(s, at); f != file || n != offset || ok != found {
			t.Fatalf("Origin of %d: %d, %d, %v, want %d, %d, %v", at, f, n, ok, file, offset, found)
		}
	}
	for _, at := range []int{-1 << 63, 1<<63 - 1} {
		if f, n, ok := source.Origin(s, at); f != 0 || n != 0 || ok {
			t.Fatalf("Origin of %d: %d, %d, %v", at, f, n, ok)
		}
	}
}

// P7.1, G6, P7.7: dead segments of random sources, configuration by configuration.
func TestDead(t *testing.T) {
	r := rand.New(rand.NewPCG(7, 4))
	for range 3000 {
		given, givenFamily := randomSource(r, 4), randomSet(r, 4)
		s, family := copyOf(given), copyOf(givenFamily)
		var want []int
		for i, g := range s.Segments {
			dead := true
			for c := range api.Config(16) {
				dead = dead && !(diagram.Holds(g.If, c) && diagram.Holds(family, c))
			}
			if dead {
				want = append(want, i)
			}
		}
		if got, e := source.Dead(s, family); !reflect.DeepEqual(got, want) || e != api.OK {
			t.Fatalf("Dead = %v, %v, want %v", got, e, want)
		}
		unchanged(t, s, given)
		unchanged(t, family, givenFamily)
	}
}

// P7.1, G6: families that are not valid.
func TestDeadFamily(t *testing.T) {
	large := api.Diagram{Nodes: make([]api.Branch, api.MaxBranches+1), Root: api.MaxBranches + 2}
	for _, family := range []api.Diagram{{Root: 2}, {Root: -1}, {Nodes: []api.Branch{{Var: 64, High: 1}}, Root: 2}, large} {
		for _, s := range []api.Source{valid(), {}} {
			if dead, e := source.Dead(s, family); dead != nil || e != api.ErrDiagram {
				t.Errorf("Dead of %v: %v, %v", family.Root, dead, e)
			}
		}
	}
}
