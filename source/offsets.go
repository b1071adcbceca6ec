package source

import (
	"slices"
	"strings"

	"koine/api"
	"koine/diagram"
)

// Select returns the text of a configuration.
func Select(s api.Source, c api.Config) string {
	if Check(s) != api.OK {
		return ""
	}
	var text strings.Builder
	for _, g := range s.Segments {
		if diagram.Holds(g.If, c) {
			text.WriteString(s.Text[g.From:g.To])
		}
	}
	return text.String()
}

// Local returns the byte offset in the text of a configuration of the byte at an offset of the source.
func Local(s api.Source, c api.Config, at int) (int, bool) {
	if Check(s) != api.OK || at < 0 || at > len(s.Text) {
		return 0, false
	}
	before := 0 // the length of the text of c in the segments before g
	for _, g := range s.Segments {
		present := diagram.Holds(g.If, c)
		if at < g.To {
			if !present {
				return 0, false
			}
			return before + at - g.From, true
		}
		if present {
			before += g.To - g.From
		}
	}
	return before, true
}

// Global returns the byte offset in the source of the byte at an offset of the text of a configuration.
func Global(s api.Source, c api.Config, at int) (int, bool) {
	if Check(s) != api.OK || at < 0 {
		return 0, false
	}
	for _, g := range s.Segments {
		if !diagram.Holds(g.If, c) {
			continue
		}
		if at < g.To-g.From {
			return g.From + at, true
		}
		at -= g.To - g.From
	}
	if at > 0 {
		return 0, false
	}
	return len(s.Text), true
}

// Origin returns the file and the byte offset in it of the byte at an offset of the source.
func Origin(s api.Source, at int) (int, int, bool) {
	if Check(s) != api.OK || at < 0 || at >= len(s.Text) {
		return 0, 0, false
	}
	g := s.Segments[slices.IndexFunc(s.Segments, func(g api.Segment) bool { return at < g.To })]
	return g.File, g.At + at - g.From, true
}
