package source

import (
	"strings"

	"koine/api"
)

// A cursor is a place in a file that is being read.
type cursor struct {
	*reader
	file, line, at int
	set            api.Diagram // the condition of the place
	sections       []section   // those of the file that are open
}

// fail leaves the reader with an error at the line.
func (c *cursor) fail(e api.Errno) { fail(e, c.file, c.line) }

// lines reads the file to its end.
func (c *cursor) lines() {
	for line := range strings.Lines(c.files[c.file].Text) {
		c.line++
		if c.directive(strings.TrimSuffix(line, "\n")) {
			c.parted = true
		} else {
			c.write(line)
		}
		c.at += len(line)
	}
	if n := len(c.sections); n > 0 {
		c.line = c.sections[n-1].line
		c.fail(api.ErrUnclosed)
	}
}

// directive follows a line if it is a directive, and returns whether it is one.
func (c *cursor) directive(line string) bool {
	word, rest, spaced := strings.Cut(line, " ")
	switch {
	case spaced && word == "#if":
		c.begin(rest)
	case spaced && word == "#elif":
		c.elseIf(rest)
	case line == "#else":
		c.otherwise()
	case line == "#end":
		c.end()
	case spaced && word == "#include":
		c.include(rest)
	default:
		return false
	}
	return true
}

// write adds a text line to the source.
func (c *cursor) write(line string) {
	from := c.text.Len()
	if c.parted {
		c.segments = append(c.segments, api.Segment{From: from, File: c.file, At: c.at, If: c.set})
		c.parted = false
	}
	to := from + len(line)
	if to > api.MaxText || len(c.segments) > api.MaxSegments {
		c.fail(api.ErrLarge)
	}
	c.segments[len(c.segments)-1].To = to
	c.text.WriteString(line)
}

// include reads the file whose name is between quotation marks.
func (c *cursor) include(quoted string) {
	name, ok := unquoted(quoted)
	if !ok {
		c.fail(api.ErrDirective)
	}
	number, ok := c.numbers[name]
	if !ok || c.open[name] {
		c.fail(api.ErrInclude)
	}
	c.enter()
	// A file without text lines that has been read at this depth or a greater one has no errors here either. Without skipping it, files that include each other twice would take forever.
	if c.depth > c.silent[name] {
		before := c.text.Len()
		c.read(number, c.set)
		if c.text.Len() == before {
			c.silent[name] = c.depth
		}
	}
	c.depth--
}

// unquoted returns what stands between the quotation marks at both ends of a string, and true if there are no others.
func unquoted(s string) (string, bool) {
	name, opened := strings.CutPrefix(s, `"`)
	name, closed := strings.CutSuffix(name, `"`)
	return name, opened && closed && !strings.Contains(name, `"`)
}

// enter counts a section or an included file.
func (c *cursor) enter() {
	if c.depth == api.MaxNesting {
		c.fail(api.ErrLarge)
	}
	c.depth++
}
