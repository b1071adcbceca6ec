package source_test

import (
	"regexp"
	"slices"
	"strings"

	"koine/api"
	"koine/formula"
)

// This file reads files by the sentences of the chapter, one line after the other, with a single list of everything that is open, and determines each condition anew, configuration by configuration.

var (
	spacedDirective = regexp.MustCompile(`(?s)^#(if|elif|include) (.*)$`)
	plainDirective  = regexp.MustCompile(`(?s)^#(else|end)$`)
	quotedName      = regexp.MustCompile(`(?s)^"([^"]*)"$`)
)

// words returns the word of a directive and what follows its first space, or nothing if the line is text.
func words(line string) (string, string) {
	if m := spacedDirective.FindStringSubmatch(line); m != nil {
		return m[1], m[2]
	}
	if m := plainDirective.FindStringSubmatch(line); m != nil {
		return m[1], ""
	}
	return "", ""
}

// An opened thing is a section or a file that is being read.
type opened struct {
	isFile   bool
	file     int           // that is being read, or to which the section belongs
	line     int           // the #if of the section, or the line of the file that is read now
	formulas []api.Formula // of the branches of the section; that of #else is nil
	hasElse  bool
}

// A textLine is one that the source has.
type textLine struct {
	file, line, at int
	text           string
	set            []bool // whether it is in a configuration
	begins         bool   // it is the first one of its segment
}

type authority struct {
	names    []string
	files    []api.File
	open     []opened
	lines    []textLine
	bytes    int
	segments int
	place    api.Place
	joined   bool // the line read before is a text line of the same file
	rootLine int  // the line of the root file that is read
}

// consult reads a file.
func consult(names []string, files []api.File, root string) *authority {
	a := &authority{names: names, files: files}
	if number := a.checked(root); a.place.E == api.OK {
		a.read(number)
	}
	return a
}

func (a *authority) fail(e api.Errno, file, line int) {
	if a.place.E == api.OK {
		a.place = api.Place{E: e, File: file, Line: line}
	}
}

func (a *authority) number(name string) int {
	return slices.IndexFunc(a.files, func(f api.File) bool { return f.Name == name })
}

// checked checks what is not in the lines, and returns the number of the root file.
func (a *authority) checked(root string) int {
	identifier := regexp.MustCompile(`^[A-Za-z_][A-Za-z_0-9]*$`)
	for i, name := range a.names {
		if !identifier.MatchString(name) || name == "true" || name == "false" || slices.Contains(a.names[:i], name) || i > 63 {
			a.fail(api.ErrFormula, -1, 0)
		}
	}
	if len(a.files) > 256 {
		a.fail(api.ErrLarge, -1, 0)
	}
	for i, f := range a.files {
		if f.Name == "" || strings.ContainsFunc(f.Name, func(c rune) bool { return c < 32 || c == 34 || c == 127 }) || a.number(f.Name) < i {
			a.fail(api.ErrFile, i, 0)
		}
		if f.Text != "" && f.Text[len(f.Text)-1] != 10 {
			a.fail(api.ErrFile, i, 0)
		}
		if len(f.Text) > 1<<20 {
			a.fail(api.ErrLarge, i, 0)
		}
	}
	n := a.number(root)
	if n < 0 {
		a.fail(api.ErrInclude, -1, 0)
	}
	return n
}

// read reads a file until its end or an error.
func (a *authority) read(number int) {
	a.open = append(a.open, opened{isFile: true, file: number})
	me := len(a.open) - 1
	a.joined = false
	at := 0
	for i, line := range linesOf(a.files[number].Text) {
		a.open[me].line = i + 1
		a.rootLine = a.open[0].line
		if a.follow(line, number, i+1, at); a.place.E != api.OK {
			return
		}
		at += len(line) + 1
	}
	if section := a.innermost(); section != nil {
		a.fail(api.ErrUnclosed, number, section.line)
		return
	}
	a.open = a.open[:me]
	a.joined = false
}

// innermost returns the innermost section of the file that is being read.
func (a *authority) innermost() *opened {
	if last := &a.open[len(a.open)-1]; !last.isFile {
		return last
	}
	return nil
}

// follow reads a line.
func (a *authority) follow(line string, file, number, at int) {
	word, rest := words(line)
	section := a.innermost()
	fail := func(e api.Errno) { a.fail(e, file, number) }
	if word == "elif" || word == "else" || word == "end" {
		if section == nil {
			fail(api.ErrUnclosed)
			return
		}
		if word != "end" && section.hasElse {
			fail(api.ErrDirective)
			return
		}
	}
	switch word {
	case "":
		a.write(line, file, number, at)
	case "if", "elif":
		f, e := formula.Parse(a.names, rest)
		if e != api.OK && e != api.ErrLarge {
			fail(api.ErrDirective)
		}
		if word == "if" && len(a.open) > 64 {
			fail(api.ErrLarge)
		}
		if e == api.ErrLarge {
			fail(api.ErrLarge)
		}
		if word == "if" {
			a.open = append(a.open, opened{file: file, line: number, formulas: []api.Formula{f}})
		} else {
			section.formulas = append(section.formulas, f)
		}
	case "else":
		section.formulas = append(section.formulas, nil)
		section.hasElse = true
	case "end":
		a.open = a.open[:len(a.open)-1]
	case "include":
		a.include(rest, fail)
	}
	a.joined = word == ""
}

func (a *authority) include(rest string, fail func(api.Errno)) {
	m := quotedName.FindStringSubmatch(rest)
	if m == nil {
		fail(api.ErrDirective)
		return
	}
	n := a.number(m[1])
	if n < 0 || slices.ContainsFunc(a.open, func(o opened) bool { return o.isFile && o.file == n }) {
		fail(api.ErrInclude)
	}
	// The root file is open, but neither a section nor included.
	if len(a.open)-1 >= 64 {
		fail(api.ErrLarge)
	}
	if a.place.E == api.OK {
		a.read(n)
	}
}

func (a *authority) write(line string, file, number, at int) {
	l := textLine{file: file, line: number, at: at, text: line + "\n", begins: !a.joined}
	for c := range api.Config(1) << len(a.names) {
		l.set = append(l.set, a.holds(c))
	}
	a.lines = append(a.lines, l)
	if a.bytes += len(l.text); l.begins {
		a.segments++
	}
	if a.bytes > 1<<20 || a.segments > 65536 {
		a.fail(api.ErrLarge, file, number)
	}
}

// holds says whether the place is in a configuration: the branch of each open section is the first one whose formula holds.
func (a *authority) holds(c api.Config) bool {
	for _, o := range a.open {
		if o.isFile {
			continue
		}
		first := slices.IndexFunc(o.formulas, func(f api.Formula) bool { return f == nil || formula.Holds(f, c) })
		if first != len(o.formulas)-1 {
			return false
		}
	}
	return true
}

// plainText returns the text of a configuration as a preprocessor makes it: it does not even look into includes in branches that it does not follow. The files have no errors.
func plainText(names []string, files []api.File, root string, c api.Config) string {
	var b strings.Builder
	n := slices.IndexFunc(files, func(f api.File) bool { return f.Name == root })
	// followed and done are, for each open section, whether the branch is followed, and whether a branch has been.
	var followed, done []bool
	for _, line := range linesOf(files[n].Text) {
		word, rest := words(line)
		last := len(done) - 1
		holds := func() bool { return formula.Holds(sure(formula.Parse(names, rest)), c) }
		switch word {
		case "if":
			followed, done = append(followed, holds()), append(done, holds())
		case "elif":
			followed[last] = !done[last] && holds()
			done[last] = done[last] || followed[last]
		case "else":
			followed[last] = !done[last]
		case "end":
			followed, done = followed[:last], done[:last]
		}
		if word != "" && word != "include" || slices.Contains(followed, false) {
			continue
		}
		if word == "include" {
			b.WriteString(plainText(names, files, strings.Trim(rest, `"`), c))
		} else {
			b.WriteString(line + "\n")
		}
	}
	return b.String()
}
