package bin

import (
	"strings"

	"codicil/api"
	"codicil/value"
)

// Read is the value whose text is handed in.
func Read(s string) (api.Value, api.Errno) {
	if len(s) > api.MaxBytes {
		return api.Value{}, api.ErrLong
	}
	c := cursor{input{rest: s}}
	v := c.value()
	if c.bad || c.rest != "" || value.Check(v) != api.OK {
		return api.Value{}, api.ErrForm
	}
	return v, api.OK
}

// input is what is left of a text; it is bad for good as soon as it was not as it must be.
type input struct {
	rest string
	bad  bool
}

// fail leaves nothing to be read.
func (in *input) fail() {
	in.rest, in.bad = "", true
}

// take are the next bytes, which share the text's memory.
func (in *input) take(many uint64) string {
	if many > uint64(len(in.rest)) {
		in.fail()
		return ""
	}
	piece := in.rest[:many]
	in.rest = in.rest[many:]
	return piece
}

func (in *input) number() uint64 {
	n, many, why := ReadNumber(in.rest)
	if why != api.OK {
		in.fail()
	}
	in.take(uint64(many))
	return n
}

// cursor reads values of what is left.
type cursor struct {
	input
}

func (c *cursor) value() api.Value {
	first := c.take(1)
	if c.bad {
		return api.Value{}
	}
	switch first[0] {
	case firstNull:
		return api.Value{}
	case firstFalse:
		return api.Value{Kind: api.KindBool}
	case firstTrue:
		return api.Value{Kind: api.KindBool, B: true}
	case firstInt:
		return api.Value{Kind: api.KindInt, N: unfolded(c.number())}
	case firstText:
		return api.Value{Kind: api.KindText, S: c.text()}
	case firstBlob:
		return api.Value{Kind: api.KindBlob, S: c.text()}
	case firstList:
		v := api.Value{Kind: api.KindList}
		c.parts(func() { v.List = append(v.List, c.value()) })
		return v
	case firstStruct:
		v := api.Value{Kind: api.KindStruct}
		c.parts(func() { v.Fields = append(v.Fields, c.field()) })
		return v
	}
	c.fail()
	return api.Value{}
}

func (c *cursor) field() api.Field {
	name := c.text()
	return api.Field{Name: name, Value: c.value()}
}

func (c *cursor) text() string {
	return strings.Clone(c.take(c.number()))
}

func (c *cursor) parts(part func()) {
	many := c.number()
	if many > api.MaxParts {
		c.fail()
	}
	for range many {
		if c.bad {
			return
		}
		part()
	}
}
