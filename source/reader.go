package source

import (
	"slices"
	"strings"

	"koine/api"
	"koine/formula"
)

// nowhere is the number of the file of an error that is in none.
const nowhere = -1

// A reader collects the source. Where it finds an error, it panics with the place, however many files are being read.
type reader struct {
	names    []string
	files    []api.File
	numbers  map[string]int  // of the files, by their names
	open     map[string]bool // the files that are being read
	silent   map[string]int  // the greatest depth at which an included file without text lines was read
	depth    int             // how many sections and included files are open
	text     strings.Builder
	segments []api.Segment
	parted   bool // the next text line begins a segment
}

// fail leaves the reader with an error.
func fail(e api.Errno, file, line int) {
	panic(api.Place{E: e, File: file, Line: line})
}

// newReader returns a reader, or fails if an argument of Read is not valid.
func newReader(names []string, files []api.File) *reader {
	if _, e := formula.Parse(names, "true"); e != api.OK {
		fail(api.ErrFormula, nowhere, 0)
	}
	if len(files) > api.MaxFiles {
		fail(api.ErrLarge, nowhere, 0)
	}
	r := reader{names: names, files: files, numbers: map[string]int{}, open: map[string]bool{}, silent: map[string]int{}}
	for i, f := range files {
		if _, taken := r.numbers[f.Name]; taken || !validName(f.Name) || !validText(f.Text) {
			fail(api.ErrFile, i, 0)
		}
		if len(f.Text) > api.MaxText {
			fail(api.ErrLarge, i, 0)
		}
		r.numbers[f.Name] = i
	}
	return &r
}

func validName(name string) bool {
	for i := range len(name) {
		if b := name[i]; b < 32 || b == '"' || b == 127 {
			return false
		}
	}
	return name != ""
}

func validText(text string) bool { return text == "" || strings.HasSuffix(text, "\n") }

// read reads a file under the condition of the place where its text stands.
func (r *reader) read(number int, set api.Diagram) {
	name := r.files[number].Name
	r.open[name] = true
	r.parted = true
	c := cursor{reader: r, file: number, set: set}
	c.lines()
	delete(r.open, name)
}

// source returns what has been read. The sets of its segments share no memory.
func (r *reader) source() api.Source {
	for i, g := range r.segments {
		r.segments[i].If.Nodes = slices.Clone(g.If.Nodes)
	}
	return api.Source{Text: r.text.String(), Segments: r.segments}
}
