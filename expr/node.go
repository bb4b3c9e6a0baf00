package expr

import (
	"strings"

	"codicil/api"
	"codicil/parse"
	"codicil/value"
)

// node is a step of a right expression, with what it takes below it.
type node interface {
	// of is what it comes to, of a right row.
	of(row api.Value) (api.Value, api.Errno)
}

// constant is what its step says, whatever the row.
type constant struct{ step api.Step }

// path leads to a part of the row.
type path struct{ step api.Step }

// operator makes something of what all its parts come to.
type operator struct {
	step  api.Step
	parts []node
}

// both is AND, either is OR: the second part is not looked at, if the first one decides alone.
type both struct{ first, second node }

type either struct{ first, second node }

// tree is the last step of a right expression.
func tree(l []api.Step) node {
	var nodes []node
	for _, s := range l {
		many, _ := parse.Takes(s)
		first := len(nodes) - many
		n := newNode(s, nodes[first:])
		nodes = append(nodes[:first], n)
	}
	return nodes[0]
}

// newNode is a step with what it takes, a list that is not kept.
func newNode(s api.Step, parts []node) node {
	switch s.Kind {
	case api.StepNull, api.StepTrue, api.StepFalse, api.StepInt, api.StepText:
		return constant{s}
	case api.StepPath:
		return path{s}
	case api.StepAnd:
		return both{parts[0], parts[1]}
	case api.StepOr:
		return either{parts[0], parts[1]}
	}
	return operator{s, append([]node{}, parts...)}
}

// partsOf are what a node takes.
func partsOf(n node) []node {
	switch x := n.(type) {
	case operator:
		return x.parts
	case both:
		return []node{x.first, x.second}
	case either:
		return []node{x.first, x.second}
	}
	return nil
}

// stepOf is a node's own step, in memory of its own.
func stepOf(n node) api.Step {
	var s api.Step
	switch x := n.(type) {
	case constant:
		s = x.step
	case path:
		s = x.step
	case operator:
		s = x.step
	case both:
		s = api.Step{Kind: api.StepAnd}
	case either:
		s = api.Step{Kind: api.StepOr}
	}
	s.Text = strings.Clone(s.Text)
	return s
}

// stepsOf are the steps that became a node, in memory of their own.
func stepsOf(n node) []api.Step {
	var out []api.Step
	for _, part := range partsOf(n) {
		out = append(out, stepsOf(part)...)
	}
	return append(out, stepOf(n))
}

// literal is the value of a node that is true, false, a number, a text, or a number with a sign ahead.
func literal(n node) (api.Value, bool) {
	if c, is := n.(constant); is && c.step.Kind != api.StepNull {
		return c.value(), true
	}
	if o, is := n.(operator); is && o.step.Kind == api.StepNeg {
		if c, is := o.parts[0].(constant); is && c.step.Kind == api.StepInt {
			// A step's number is not below 0, so that it can always be turned round.
			return number(-c.step.N), true
		}
	}
	return api.Value{}, false
}

func (c constant) of(api.Value) (api.Value, api.Errno) {
	return c.value(), api.OK
}

func (c constant) value() api.Value {
	switch c.step.Kind {
	case api.StepTrue, api.StepFalse:
		return flag(c.step.Kind == api.StepTrue)
	case api.StepInt:
		return number(c.step.N)
	case api.StepText:
		return api.Value{Kind: api.KindText, S: strings.Clone(c.step.Text)}
	}
	return api.Value{}
}

func (p path) of(row api.Value) (api.Value, api.Errno) {
	// What leads to nothing is null, which is the zero value.
	v, _ := value.Get(row, strings.Split(p.step.Text, "."))
	return v, api.OK
}

func (o operator) of(row api.Value) (api.Value, api.Errno) {
	var values []api.Value
	for _, part := range o.parts {
		v, why := part.of(row)
		if why != api.OK {
			return api.Value{}, why
		}
		values = append(values, v)
	}
	return made(o.step, values)
}

func (b both) of(row api.Value) (api.Value, api.Errno) {
	first, why := flagOf(b.first, row)
	if why != api.OK || !isTrue(first) {
		return first, why
	}
	return flagOf(b.second, row)
}

func (e either) of(row api.Value) (api.Value, api.Errno) {
	first, why := flagOf(e.first, row)
	if why != api.OK || isTrue(first) {
		return first, why
	}
	second, why := flagOf(e.second, row)
	if why != api.OK || isTrue(second) || isNull(second) {
		return second, why
	}
	return first, api.OK
}

// flagOf is what a node comes to, which is null or a bool.
func flagOf(n node, row api.Value) (api.Value, api.Errno) {
	v, why := n.of(row)
	switch {
	case why != api.OK:
		return api.Value{}, why
	case !isFlag(v):
		return api.Value{}, api.ErrType
	}
	return v, api.OK
}
