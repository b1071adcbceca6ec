package source

import (
	"koine/api"
	"koine/diagram"
	"koine/formula"
)

// A section is one that is open.
type section struct {
	line    int         // of its #if
	outside api.Diagram // the condition of its place
	left    api.Diagram // outside, without the branches before the current one
	last    bool        // the current branch is that of #else
}

// begin opens a section.
func (c *cursor) begin(expression string) {
	where := c.where(expression)
	c.enter()
	c.sections = append(c.sections, section{line: c.line, outside: c.set, left: c.set})
	c.set = c.sure(diagram.And(c.set, where))
}

// elseIf begins a branch with a formula.
func (c *cursor) elseIf(expression string) {
	s := c.innermost()
	where := c.where(expression)
	c.leave(s)
	c.set = c.sure(diagram.And(s.left, where))
}

// otherwise begins the branch of #else.
func (c *cursor) otherwise() {
	s := c.innermost()
	c.leave(s)
	c.set = s.left
	s.last = true
}

// end closes the innermost section.
func (c *cursor) end() {
	n := len(c.sections) - 1
	if n < 0 {
		c.fail(api.ErrUnclosed)
	}
	c.set = c.sections[n].outside
	c.sections = c.sections[:n]
	c.depth--
}

// innermost returns the innermost section, in which another branch can begin.
func (c *cursor) innermost() *section {
	n := len(c.sections)
	if n == 0 {
		c.fail(api.ErrUnclosed)
	}
	s := &c.sections[n-1]
	if s.last {
		c.fail(api.ErrDirective)
	}
	return s
}

// leave takes the current branch of the innermost section from what is left for the others.
func (c *cursor) leave(s *section) {
	s.left = c.sure(diagram.Choose(c.set, diagram.Constant(false), s.left))
}

// where returns the configurations in which an expression is true.
func (c *cursor) where(expression string) api.Diagram {
	f, e := formula.Parse(c.names, expression)
	switch e {
	case api.OK:
	case api.ErrLarge:
		c.fail(e)
	default:
		c.fail(api.ErrDirective)
	}
	return c.sure(formula.Diagram(f))
}

// sure returns a set, or fails if it is too large.
func (c *cursor) sure(d api.Diagram, e api.Errno) api.Diagram {
	if e != api.OK {
		c.fail(e)
	}
	return d
}
