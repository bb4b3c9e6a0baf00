package code

import (
	"slices"
	"strings"

	"codicil/api"
	"codicil/parse"
)

// compiler has the steps of a right expression, and the program that is written so far.
type compiler struct {
	steps []api.Step
	sizes []int
	out   []api.Instr
}

// sizes are how many steps each step of a right expression is, with all that it takes.
func sizes(l []api.Step) []int {
	out := make([]int, len(l))
	for i, s := range l {
		many, _ := parse.Takes(s)
		out[i] = 1
		for range many {
			out[i] += out[i-out[i]]
		}
	}
	return out
}

// parts are the places of the last steps of all that a step takes, in order.
func (c *compiler) parts(last int) []int {
	var out []int
	for at := last - 1; at > last-c.sizes[last]; at -= c.sizes[at] {
		out = append(out, at)
	}
	slices.Reverse(out)
	return out
}

// expression writes the program of the expression whose last step stands at a place.
func (c *compiler) expression(last int) {
	switch s := c.steps[last]; s.Kind {
	case api.StepAnd:
		c.decided(last, api.OpAnd, api.OpFlag)
	case api.StepOr:
		c.decided(last, api.OpOr, api.OpJoin)
	default:
		for _, part := range c.parts(last) {
			c.expression(part)
		}
		s.Text = strings.Clone(s.Text)
		c.out = append(c.out, api.Instr{Op: api.OpStep, Step: s})
	}
}

// decided writes two parts, of which the second one is jumped over where the first one decides alone.
func (c *compiler) decided(last int, jump, end api.Op) {
	parts := c.parts(last)
	c.expression(parts[0])
	at := len(c.out)
	c.out = append(c.out, api.Instr{Op: jump})
	c.expression(parts[1])
	c.out = append(c.out, api.Instr{Op: end})
	c.out[at].To = len(c.out)
}
