package source_test

import (
	"math/rand/v2"
	"reflect"
	"slices"
	"strconv"
	"strings"
	"testing"

	"koine/api"
	"koine/diagram"
	"koine/formula"
	"koine/source"
)

// sure returns the result of a call that cannot fail.
func sure[T any](result T, e api.Errno) T {
	if e != api.OK {
		panic("error " + strconv.Itoa(int(e)))
	}
	return result
}

func all() api.Diagram  { return diagram.Constant(true) }
func none() api.Diagram { return diagram.Constant(false) }

// abc returns names of three conditions.
func abc() []string { return []string{"A", "B", "C"} }

// set returns the configurations of an expression over A, B and C.
func set(expression string) api.Diagram {
	return sure(formula.Diagram(sure(formula.Parse(abc(), expression))))
}

// file returns a file with some lines.
func file(name string, lines ...string) api.File {
	return api.File{Name: name, Text: text(lines...)}
}

func text(lines ...string) string {
	var b strings.Builder
	for _, line := range lines {
		b.WriteString(line + "\n")
	}
	return b.String()
}

// linesOf returns the lines of a valid text.
func linesOf(text string) []string {
	lines := strings.Split(text, "\n")
	return lines[:len(lines)-1]
}

// copied returns a value that shares no memory with v, but for strings. All lists have spare capacity.
func copied(v reflect.Value) reflect.Value {
	c := reflect.New(v.Type()).Elem()
	switch v.Kind() {
	case reflect.Slice:
		c.Set(reflect.MakeSlice(v.Type(), v.Len(), v.Len()+2))
		for i := range v.Len() {
			c.Index(i).Set(copied(v.Index(i)))
		}
	case reflect.Struct:
		for i := range v.NumField() {
			c.Field(i).Set(copied(v.Field(i)))
		}
	default:
		c.Set(v)
	}
	return c
}

func copyOf[T any](v T) T { return copied(reflect.ValueOf(v)).Interface().(T) }

// lists calls a function for each list of a value.
func lists(v reflect.Value, visit func(list reflect.Value)) {
	switch v.Kind() {
	case reflect.Slice:
		visit(v)
		for i := range v.Len() {
			lists(v.Index(i), visit)
		}
	case reflect.Struct:
		for i := range v.NumField() {
			lists(v.Field(i), visit)
		}
	}
}

// unchanged fails unless a value that copyOf has returned is still like another one, with its spare capacity.
func unchanged[T any](t *testing.T, v, like T) {
	t.Helper()
	same := reflect.DeepEqual(copyOf(v), copyOf(like))
	lists(reflect.ValueOf(v), func(list reflect.Value) {
		for i := list.Len(); i < list.Cap(); i++ {
			same = same && list.Slice(0, list.Cap()).Index(i).IsZero()
		}
	})
	if !same {
		t.Fatal("an argument was changed")
	}
}

// separate fails if two lists of a result share memory.
func separate(t *testing.T, result any) {
	t.Helper()
	type place struct{ from, to uintptr }
	var places []place
	lists(reflect.ValueOf(result), func(list reflect.Value) {
		if list.Cap() > 0 {
			places = append(places, place{list.Pointer(), list.Pointer() + uintptr(list.Cap())*list.Type().Elem().Size()})
		}
	})
	slices.SortFunc(places, func(a, b place) int { return int(a.from) - int(b.from) })
	for i := 1; i < len(places); i++ {
		if places[i].from < places[i-1].to {
			t.Fatal("a list of a result shares memory")
		}
	}
}

// read returns what Read returns, and fails if that is not of the right form or an argument was changed.
func read(t *testing.T, names []string, files []api.File, root string) (api.Source, api.Place) {
	t.Helper()
	givenNames, givenFiles := copyOf(names), copyOf(files)
	s, p := source.Read(givenNames, givenFiles, root)
	unchanged(t, givenNames, names)
	unchanged(t, givenFiles, files)
	separate(t, s)
	switch {
	case p.E != api.OK && (s.Text != "" || len(s.Segments) > 0):
		t.Fatalf("a source with the error %v", p)
	case p.E == api.OK && p != api.Place{}:
		t.Fatalf("a place without an error: %v", p)
	case source.Check(s) != api.OK:
		t.Fatalf("Read returned a source that is not valid: %v", source.Check(s))
	}
	return s, p
}

// good returns the source of valid files.
func good(t *testing.T, names []string, files []api.File, root string) api.Source {
	t.Helper()
	s, p := read(t, names, files, root)
	if p.E != api.OK {
		t.Fatalf("Read: error %v", p)
	}
	return s
}

// expectPlace fails unless Read returns an error at a place.
func expectPlace(t *testing.T, what string, names []string, files []api.File, root string, e api.Errno, file, line int) {
	t.Helper()
	if _, p := read(t, names, files, root); p != (api.Place{E: e, File: file, Line: line}) {
		t.Errorf("%s: got %v, want error %d, file %d, line %d", what, p, e, file, line)
	}
}

// expectRoot fails unless Read of a root file, which is number 0, with the names A, B and C returns an error at a line.
func expectRoot(t *testing.T, e api.Errno, line int, lines ...string) {
	t.Helper()
	expectPlace(t, strings.Join(lines, "|"), abc(), []api.File{file("m", lines...)}, "m", e, 0, line)
}

// expectSegments fails unless a source has the segments of a list, whose sets are those of expressions.
func expectSegments(t *testing.T, s api.Source, want []api.Segment, sets ...string) {
	t.Helper()
	if len(s.Segments) != len(want) || len(sets) != len(want) {
		t.Fatalf("%d segments %v, want %d", len(s.Segments), s.Segments, len(want))
	}
	for i, g := range s.Segments {
		w := want[i]
		if w.If = set(sets[i]); !sameSegment(g, w) {
			t.Errorf("segment %d is %v, want %v", i, g, w)
		}
	}
}

func sameSegment(a, b api.Segment) bool {
	return a.From == b.From && a.To == b.To && a.File == b.File && a.At == b.At && diagram.Same(a.If, b.If)
}

// randomSet returns a set of configurations of n conditions.
func randomSet(r *rand.Rand, n int) api.Diagram {
	d := diagram.Constant(r.IntN(2) > 0)
	for range r.IntN(5) {
		x := sure(diagram.Var(r.IntN(n)))
		switch r.IntN(3) {
		case 0:
			d = sure(diagram.And(d, x))
		case 1:
			d = sure(diagram.Or(d, x))
		case 2:
			d = sure(diagram.Xor(d, x))
		}
	}
	return d
}

// randomSource returns a valid source that Read need not return.
func randomSource(r *rand.Rand, conditions int) api.Source {
	var s api.Source
	for range r.IntN(6) {
		from := len(s.Text)
		for range 1 + r.IntN(2) {
			s.Text += "a\nb"[:r.IntN(4)] + "\n"
		}
		g := api.Segment{From: from, To: len(s.Text), File: r.IntN(5), If: randomSet(r, conditions)}
		if g.At = r.IntN(9); r.IntN(9) == 0 {
			g.File, g.At = r.Int(), api.MaxText-(g.To-g.From)
		}
		s.Segments = append(s.Segments, g)
	}
	return s
}
