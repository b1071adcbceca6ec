package source_test

import (
	"math/rand/v2"
	"slices"
	"strconv"
	"strings"
	"testing"

	"koine/api"
	"koine/diagram"
	"koine/source"
)

// randomGood returns files without errors, and the source of the first one.
func (g *generator) randomGood(t *testing.T) ([]api.File, api.Source) {
	t.Helper()
	for {
		files := g.randomFiles(2)
		if s, p := read(t, abc(), files, nameOf(0)); p.E == api.OK {
			return files, s
		}
	}
}

// P7.2: the text of each configuration is that of a preprocessor.
func TestSelection(t *testing.T) {
	g := generator{Rand: rand.New(rand.NewPCG(7, 10))}
	for range 1500 {
		files, s := g.randomGood(t)
		for c := range api.Config(8) {
			if got, want := source.Select(s, c), plainText(abc(), files, nameOf(0), c); got != want {
				t.Fatalf("%q in configuration %d: %q, want %q", files, c, got, want)
			}
		}
	}
}

// P7.3: the branches of a section and what is beside it.
func TestBranches(t *testing.T) {
	g := generator{Rand: rand.New(rand.NewPCG(7, 11)), files: 2}
	for range 3000 {
		section := []string{"#if " + g.expression(), "0"}
		n := 1
		for range g.IntN(4) {
			section = append(append(section, nested(g.IntN(2), "x")...), "#elif "+g.expression(), strconv.Itoa(n))
			n++
		}
		complete := g.IntN(2) == 0
		if complete {
			section = append(section, "#else", strconv.Itoa(n))
			n++
		}
		around := g.expression()
		lines := slices.Concat([]string{"#if " + around, "before"}, section, []string{"#end", "behind", "#end"})
		if g.IntN(2) == 0 {
			lines = slices.Concat([]string{"#if " + g.expression(), "#elif " + around, "before"}, section, []string{"#end", "behind", "#else", "#end"})
		}
		s := good(t, abc(), []api.File{file("f0", lines...), file("f1", "z")}, "f0")
		place := conditionOf(t, s, "before")
		union := none()
		for i := range n {
			branch := conditionOf(t, s, strconv.Itoa(i))
			if !diagram.Disjoint(branch, union) || !diagram.Within(branch, place) {
				t.Fatalf("%q: branch %d", lines, i)
			}
			union = sure(diagram.Or(union, branch))
		}
		if complete && !diagram.Same(union, place) || !diagram.Same(conditionOf(t, s, "behind"), place) {
			t.Fatalf("%q: not all of the place", lines)
		}
	}
}

// conditionOf returns the condition of the segment that begins with a line.
func conditionOf(t *testing.T, s api.Source, line string) api.Diagram {
	t.Helper()
	for _, g := range s.Segments {
		if strings.HasPrefix(s.Text[g.From:], line+"\n") {
			return g.If
		}
	}
	t.Fatalf("no segment begins with %q", line)
	return api.Diagram{}
}

// P7.4: offsets of sources that Read returns.
func TestInverse(t *testing.T) {
	g := generator{Rand: rand.New(rand.NewPCG(7, 12))}
	for range 200 {
		files, s := g.randomGood(t)
		if len(s.Text) > 600 {
			continue
		}
		for at := range len(s.Text) {
			if f, n, ok := source.Origin(s, at); !ok || files[f].Text[n] != s.Text[at] {
				t.Fatalf("%q: the byte at %d is not that of its origin", files, at)
			}
		}
		for c := range api.Config(8) {
			expectInverse(t, s, c)
		}
	}
}

func expectInverse(t *testing.T, s api.Source, c api.Config) {
	t.Helper()
	local := source.Select(s, c)
	last, found := -1, 0
	for at := range len(s.Text) + 1 {
		n, ok := source.Local(s, c, at)
		if !ok {
			continue
		}
		if back, ok := source.Global(s, c, n); !ok || back != at || n <= last {
			t.Fatalf("offset %d has the local offset %d, and that the offset %d", at, n, back)
		}
		if at < len(s.Text) && local[n] != s.Text[at] {
			t.Fatalf("the byte at %d is another one at its local offset %d", at, n)
		}
		last, found = n, found+1
	}
	if found != len(local)+1 {
		t.Fatalf("%d local offsets, want %d", found, len(local)+1)
	}
}

// conditions returns the condition of each byte.
func conditions(s api.Source) []api.Diagram {
	var list []api.Diagram
	for _, g := range s.Segments {
		for range g.To - g.From {
			list = append(list, g.If)
		}
	}
	return list
}

// P7.5: the lines of a file instead of an include.
func TestReplacedIncludes(t *testing.T) {
	g := generator{Rand: rand.New(rand.NewPCG(7, 13))}
	replaced := 0
	for range 600 {
		files, s := g.randomGood(t)
		for i, f := range files {
			lines := linesOf(f.Text)
			for k, line := range lines {
				name, ok := strings.CutPrefix(line, "#include ")
				n := slices.IndexFunc(files, func(f api.File) bool { return ok && `"`+f.Name+`"` == name })
				if n < 0 || n == i {
					continue
				}
				other := slices.Clone(files)
				other[i].Text = text(slices.Concat(lines[:k], linesOf(files[n].Text), lines[k+1:])...)
				x, p := read(t, abc(), other, nameOf(0))
				if p.E != api.OK || x.Text != s.Text || !slices.EqualFunc(conditions(x), conditions(s), diagram.Same) {
					t.Fatalf("%q with the lines of %q: %v, %v", files, name, x, p)
				}
				replaced++
			}
		}
	}
	if replaced < 1000 {
		t.Errorf("only %d includes", replaced)
	}
}

// P7.6: lines behind an error do not change it.
func TestErrorsStay(t *testing.T) {
	g := generator{Rand: rand.New(rand.NewPCG(7, 14))}
	errors := map[api.Errno]int{}
	for i := range 6000 {
		files := g.randomFiles(3 + i%5)
		_, p := read(t, abc(), files, nameOf(0))
		line := consult(abc(), files, nameOf(0)).rootLine
		lines := linesOf(files[0].Text)
		if p.E == api.OK || p.E == api.ErrUnclosed && line == len(lines) {
			continue
		}
		errors[p.E]++
		for _, behind := range [][]string{nil, g.block(0, 2), {g.malformed()}, {"#end"}, {"#else"}, {"#if A"}, append(lines[line:], "x")} {
			other := slices.Clone(files)
			other[0].Text = text(append(slices.Clone(lines[:line]), behind...)...)
			if _, q := read(t, abc(), other, nameOf(0)); q != p {
				t.Fatalf("%q: %v, but %v with other lines behind", files, p, q)
			}
		}
	}
	if len(errors) < 3 || errors[api.ErrDirective] < 100 || errors[api.ErrUnclosed] < 100 || errors[api.ErrInclude] < 100 {
		t.Errorf("only the errors %v", errors)
	}
}

// P7.6: without sections and includes the source is the file.
func TestPlainFiles(t *testing.T) {
	g := generator{Rand: rand.New(rand.NewPCG(7, 15))}
	for range 1000 {
		var lines []string
		for range g.IntN(6) {
			lines = append(lines, g.textOf())
		}
		n := g.IntN(3)
		files := slices.Repeat([]api.File{file("other", "#if")}, n)
		for i := range files {
			files[i].Name += strconv.Itoa(i)
		}
		s := good(t, abc(), append(files, file("m", lines...)), "m")
		if s.Text != text(lines...) || len(s.Segments) != min(len(lines), 1) {
			t.Fatalf("%q: the source %v", lines, s)
		}
		if len(lines) > 0 && !sameSegment(s.Segments[0], api.Segment{To: len(s.Text), File: n, If: all()}) {
			t.Fatalf("%q: the segment %v", lines, s.Segments[0])
		}
	}
}

// P7.7: a segment is dead if none of its bytes is in the text of a configuration of the family.
func TestDeadBytes(t *testing.T) {
	g := generator{Rand: rand.New(rand.NewPCG(7, 16))}
	for range 400 {
		_, s := g.randomGood(t)
		family := randomSet(g.Rand, 3)
		dead := sure(source.Dead(s, family))
		if !slices.IsSorted(dead) {
			t.Fatalf("Dead = %v", dead)
		}
		for i, segment := range s.Segments {
			used := false
			for c := range api.Config(8) {
				_, ok := source.Local(s, c, segment.From+g.IntN(segment.To-segment.From))
				used = used || ok && diagram.Holds(family, c)
			}
			if used == slices.Contains(dead, i) {
				t.Fatalf("segment %d: dead is %v, but used is %v", i, dead, used)
			}
		}
	}
}
