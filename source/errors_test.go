package source_test

import (
	"strconv"
	"strings"
	"testing"

	"koine/api"
)

// P7.1, G1: names, numbers of files, and files that are not valid, in their order.
func TestArguments(t *testing.T) {
	m := file("m", "x")
	many := func(n int) []api.File {
		var files []api.File
		for i := range n {
			files = append(files, file("f"+strconv.Itoa(i), "x"))
		}
		return files
	}
	long := make([]string, api.MaxConditions+1)
	for i := range long {
		long[i] = "C" + strconv.Itoa(i)
	}
	if _, p := read(t, long[:api.MaxConditions], []api.File{m}, "m"); p.E != api.OK {
		t.Errorf("64 names: %v", p)
	}
	for _, names := range [][]string{{"A", "A"}, {""}, {"true"}, {"A", "false"}, {"1"}, {"A B"}, {"é"}, long} {
		expectPlace(t, "names", names, []api.File{m}, "m", api.ErrFormula, -1, 0)
		expectPlace(t, "names before too many files", names, many(api.MaxFiles+1), "m", api.ErrFormula, -1, 0)
		expectPlace(t, "names before a file", names, []api.File{{}}, "m", api.ErrFormula, -1, 0)
	}
	files := many(api.MaxFiles + 1)
	good(t, abc(), files[:api.MaxFiles], "f255")
	expectPlace(t, "too many files", abc(), files, "f0", api.ErrLarge, -1, 0)
	files[0].Name = ""
	expectPlace(t, "too many files before a file", abc(), files, "f0", api.ErrLarge, -1, 0)
	expectPlace(t, "a name at the end", abc(), append(many(255), api.File{}), "f0", api.ErrFile, 255, 0)
}

// P7.1, G1: names and texts of files that are valid, and others.
func TestFiles(t *testing.T) {
	for b := range 256 {
		for _, name := range []string{string([]byte{byte(b)}), "a" + string([]byte{byte(b)}) + "b"} {
			files := []api.File{{Name: "m"}, {Name: name}}
			if b < 32 || b == 34 || b == 127 {
				expectPlace(t, "the name "+name, abc(), files, "m", api.ErrFile, 1, 0)
				expectPlace(t, "the name of the root "+name, abc(), files[1:], name, api.ErrFile, 0, 0)
			} else if name != "m" {
				files[0].Text, files[1].Text = text(`#include "`+name+`"`), "x\n"
				if s := good(t, abc(), files, "m"); s.Text != "x\n" {
					t.Errorf("the name %q: the text %q", name, s.Text)
				}
			}
		}
	}
	large := strings.Repeat("x", api.MaxText) + "\n"
	m := file("m", "x")
	for _, c := range []struct {
		e     api.Errno
		file  int
		files []api.File
	}{
		{api.ErrFile, 1, []api.File{m, {}, m}},
		{api.ErrFile, 2, []api.File{m, file("n"), m}},
		{api.ErrFile, 2, []api.File{m, file("n"), {Name: "m", Text: large}}},
		{api.ErrFile, 1, []api.File{m, {Name: "n", Text: "x"}, {Name: "p", Text: large}}},
		{api.ErrFile, 0, []api.File{{Name: "m", Text: "x\ny"}}},
		{api.ErrFile, 0, []api.File{{Name: "m", Text: "x\n\r"}}},
		{api.ErrFile, 0, []api.File{{Name: "m", Text: large + "x"}}},
		{api.ErrFile, 0, []api.File{{Name: "\x1f", Text: large}}},
		{api.ErrLarge, 0, []api.File{{Name: "m", Text: large}, {}}},
		{api.ErrLarge, 1, []api.File{m, {Name: "n", Text: large}, {Name: "n", Text: "x"}}},
		{api.ErrInclude, -1, []api.File{}},
		{api.ErrInclude, -1, []api.File{file("M"), file("m "), file("mm", "#end")}},
		{api.ErrFile, 1, []api.File{file("M"), {Name: "n", Text: "x"}}},
	} {
		expectPlace(t, "files", abc(), c.files, "m", c.e, c.file, 0)
	}
	if s := good(t, nil, []api.File{{Name: "m", Text: large[1:]}}, "m"); s.Text != large[1:] {
		t.Error("a file of the greatest length is not the source")
	}
	good(t, nil, []api.File{m, {Name: "n", Text: large[1:]}}, "m")
}

// P7.1, G1: the errors of directives, and which one comes first.
func TestDirectives(t *testing.T) {
	for _, rest := range []string{"", " ", "A &&", "A B", "D", "(A", "A)", "a", "\"A\"", "A\r", "A // A"} {
		expectRoot(t, api.ErrDirective, 2, "x", "#if "+rest)
		expectRoot(t, api.ErrDirective, 3, "x", "#if A", "#elif "+rest, "#end")
		expectRoot(t, api.ErrUnclosed, 2, "x", "#elif "+rest)
		expectRoot(t, api.ErrUnclosed, 3, "#if A", "#end", "#elif "+rest)
		expectRoot(t, api.ErrDirective, 3, "#if A", "#else", "#elif "+rest, "#end")
	}
	for _, rest := range []string{"", `"`, "n", `"n`, `n"`, `'n'`, ` "n"`, `"n" `, `"n"x"`, `"n""`, `""n"`, `"""`, "\"n\"\r"} {
		expectRoot(t, api.ErrDirective, 2, "x", "#include "+rest)
	}
	for _, rest := range []string{`""`, `"n"`, `" m"`, `"M"`, `"m"`} {
		expectRoot(t, api.ErrInclude, 2, "x", "#include "+rest)
	}
	for _, line := range []string{"#elif A", "#else", "#end"} {
		expectRoot(t, api.ErrUnclosed, 1, line)
		expectRoot(t, api.ErrUnclosed, 3, "#if A", "#end", line)
	}
	expectRoot(t, api.ErrDirective, 3, "#if A", "#else", "#else", "#end")
	expectRoot(t, api.ErrDirective, 3, "#if A", "#else", "#elif B", "#end")
	expectRoot(t, api.ErrDirective, 6, "#if A", "#else", "#if B", "#else", "#end", "#else")
	expectRoot(t, api.ErrUnclosed, 2, "x", "#if A")
	expectRoot(t, api.ErrUnclosed, 2, "#if A", "#if B", "#else", "x")
	expectRoot(t, api.ErrUnclosed, 1, "#if A", "#if B", "#else", "#end")
}

// P7.1, G1: sections and files that are open are those of the file itself and those that are being read.
func TestIncluded(t *testing.T) {
	including := file("m", "#if A", `#include "n"`, "#end")
	for _, line := range []string{"#elif B", "#elif &&", "#else", "#end"} {
		expectPlace(t, line+" in a file that a section includes", abc(), []api.File{including, file("n", "x", line)}, "m", api.ErrUnclosed, 1, 2)
	}
	expectPlace(t, "an end in another file", abc(), []api.File{including, file("n", "", "#if B", "#if C", "#end")}, "m", api.ErrUnclosed, 1, 2)
	expectPlace(t, "an error behind the include", abc(), []api.File{file("m", `#include "n"`, "#if"+" "), file("n", "x")}, "m", api.ErrDirective, 0, 2)

	chain := []api.File{file("p", "", `#include "m"`), file("n", `#include "p"`), file("m", "", "", `#include "n"`)}
	for i, root := range []string{"p", "n", "m"} {
		last := (i + 1) % 3
		expectPlace(t, "a ring from "+root, abc(), chain, root, api.ErrInclude, last, []int{2, 1, 3}[last])
	}
	expectPlace(t, "a file includes itself", abc(), []api.File{file("m", "#if false", `#include "m"`, "#end")}, "m", api.ErrInclude, 0, 2)
	expectPlace(t, "an unknown file in a dead section", abc(), []api.File{file("m", "#if false", `#include "n"`, "#end")}, "m", api.ErrInclude, 0, 2)

	twice := []api.File{file("m", `#include "n"`, `#include "p"`, `#include "n"`, "#if A", `#include "n"`, "#end"), file("n", "x"), file("p", `#include "n"`)}
	if s := good(t, abc(), twice, "m"); s.Text != "x\nx\nx\nx\n" || len(s.Segments) != 4 {
		t.Errorf("a file that is included several times: %v", s)
	}
}
