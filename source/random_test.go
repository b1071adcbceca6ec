package source_test

import (
	"math/rand/v2"
	"slices"
	"strconv"
	"testing"

	"koine/api"
	"koine/diagram"
)

// A generator writes random files.
type generator struct {
	*rand.Rand
	files int
	marks int // the number of text lines that no other line is like
}

func pick[T any](r *rand.Rand, list ...T) T { return list[r.IntN(len(list))] }

// textOf returns a text line, which may look like a directive.
func (g *generator) textOf() string {
	if g.IntN(3) > 0 {
		g.marks++
		return "line " + strconv.Itoa(g.marks)
	}
	return pick(g.Rand, "", "x", " ", "#", "#if", "#elif", "#include", " #if A", "#if\tA", "#ifdef A", "#else ", "#end ", "#endif", "#elseif", "#end\r", "\t#end", "#\x00\xff", "é #if A", "#include\"f0\"", "#If A", "if A", "#else#", "##end")
}

func (g *generator) expression() string {
	return pick(g.Rand, "A", "B", "C", "!A", "A && B", "A || B", "!(A && C)", "true", "false", " B ", "\t!C", "A && !B || C", "B||C")
}

// malformed returns a directive that is an error wherever it stands.
func (g *generator) malformed() string {
	return pick(g.Rand, "#if ", "#if D", "#if A\r", "#if A B", "#if A &&", "#if (A", "#if \"f0\"", "#include ", "#include f0", "#include \"", "#include  \"f0\"", "#include \"f0\" ", "#include \"f\"0\"", "#include \"\"", "#include \"F0\"", "#include \"nowhere\"", "#if A\x00")
}

// include returns a directive that includes a file with a greater number, if there is one.
func (g *generator) include(number int) string {
	if number+1 >= g.files {
		return g.textOf()
	}
	return includeOf(number + 1 + g.IntN(g.files-number-1))
}

func nameOf(number int) string    { return "f" + strconv.Itoa(number) }
func includeOf(number int) string { return `#include "` + nameOf(number) + `"` }

// block returns some lines without errors of a file.
func (g *generator) block(number, depth int) []string {
	var lines []string
	for range g.IntN(4) {
		switch k := g.IntN(6); {
		case k == 0:
			lines = append(lines, g.include(number))
		case k < 3 && depth > 0:
			lines = append(lines, g.section(number, depth-1)...)
		default:
			lines = append(lines, g.textOf())
		}
	}
	return lines
}

func (g *generator) section(number, depth int) []string {
	lines := append([]string{"#if " + g.expression()}, g.block(number, depth)...)
	for range g.IntN(3) {
		lines = append(append(lines, "#elif "+g.expression()), g.block(number, depth)...)
	}
	if g.IntN(2) == 0 {
		lines = append(append(lines, "#else"), g.block(number, depth)...)
	}
	return append(lines, "#end")
}

// damaged returns lines with a change that may be an error.
func (g *generator) damaged(lines []string) []string {
	i := g.IntN(len(lines) + 1)
	switch g.IntN(4) {
	case 0:
		return slices.Insert(slices.Clone(lines), i, pick(g.Rand, "#else", "#end", "#if B", "#elif A", "#elif D", "#elif", includeOf(g.IntN(g.files))))
	case 1:
		return slices.Insert(slices.Clone(lines), i, g.malformed())
	case 2:
		return slices.Delete(slices.Clone(lines), i, min(i+1, len(lines)))
	}
	return slices.Concat(lines[:i], lines[i/2:])
}

// randomFiles returns files of which the first one is to be read; damage is how many of 10 have no error that was made on purpose.
func (g *generator) randomFiles(damage int) []api.File {
	g.files = 1 + g.IntN(4)
	g.marks = 0
	var files []api.File
	for i := range g.files {
		lines := append(g.block(i, 3), g.block(i, 3)...)
		for g.IntN(10) < damage {
			lines = g.damaged(lines)
		}
		files = append(files, file(nameOf(i), lines...))
	}
	return files
}

// agree fails unless Read returns what the authority says, and returns whether this is a source.
func agree(t *testing.T, names []string, files []api.File, root string) bool {
	t.Helper()
	s, p := read(t, names, files, root)
	a := consult(names, files, root)
	if p != a.place {
		t.Fatalf("Read of %q: place %v, want %v", files, p, a.place)
	}
	if p.E != api.OK {
		return false
	}
	expectLines(t, s, a.lines)
	return true
}

// expectLines fails unless a source consists of some lines.
func expectLines(t *testing.T, s api.Source, lines []textLine) {
	t.Helper()
	var want []textLine // one for each segment
	whole := ""
	for _, l := range lines {
		if whole += l.text; l.begins {
			want = append(want, l)
		} else {
			want[len(want)-1].text += l.text
		}
	}
	if s.Text != whole || len(s.Segments) != len(want) {
		t.Fatalf("the text %q with %d segments, want %q with %d", s.Text, len(s.Segments), whole, len(want))
	}
	from := 0
	for i, w := range want {
		g := s.Segments[i]
		if g.From != from || g.To != from+len(w.text) || g.File != w.file || g.At != w.at {
			t.Fatalf("segment %d is %v, want %v", i, g, w)
		}
		from = g.To
		for _, v := range diagram.Support(g.If) {
			if 1<<v >= len(w.set) {
				t.Fatalf("the condition of segment %d depends on %d", i, v)
			}
		}
		for c, holds := range w.set {
			if diagram.Holds(g.If, api.Config(c)) != holds {
				t.Fatalf("segment %d is in configuration %d: %v, want %v", i, c, !holds, holds)
			}
		}
	}
}
