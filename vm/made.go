package vm

import (
	"strconv"

	"codicil/api"
	"codicil/expr"
	"codicil/parse"
	"codicil/value"
)

// takes is how many values a right step takes.
func takes(s api.Step) int {
	many, _ := parse.Takes(s)
	return many
}

// made is what a right step, which is neither AND nor OR, makes of right values. Expressions know values as parts of a row alone: so they are laid into one.
func made(s api.Step, row api.Value, l []api.Value) (api.Value, api.Errno) {
	switch s.Kind {
	case api.StepEqual, api.StepUnlike:
		return compared(s.Kind, l[0], l[1]), api.OK
	case api.StepList, api.StepStruct:
		// A row is nested as deep as what is made here, so that both are right, or have one error.
		return expr.Eval(asked(s, l), laid(l))
	}
	if len(l) == 0 {
		return expr.Eval([]api.Step{s}, row)
	}
	return expr.Eval(asked(s, l), laid(hollow(l)))
}

// compared is whether two values are alike, or unlike; null, if one is.
func compared(kind api.StepKind, a, b api.Value) api.Value {
	if isNull(a) || isNull(b) {
		return api.Value{}
	}
	alike := value.Compare(a, b) == 0
	return flag(alike == (kind == api.StepEqual))
}

// hollow are values with nothing in lists and structs, of which operators ask the kind alone: what is nested as deep as may be has no room in a row.
func hollow(l []api.Value) []api.Value {
	var out []api.Value
	for _, v := range l {
		v.List, v.Fields = nil, nil
		out = append(out, v)
	}
	return out
}

// laid is a row with values in it, each under its name.
func laid(l []api.Value) api.Value {
	row := api.Value{Kind: api.KindStruct}
	for i, v := range l {
		row.Fields = append(row.Fields, api.Field{Name: name(i), Value: v})
	}
	return row
}

// asked is the expression of a step that takes all values of such a row.
func asked(s api.Step, l []api.Value) []api.Step {
	var out []api.Step
	for i := range l {
		out = append(out, api.Step{Kind: api.StepPath, Text: name(i)})
	}
	return append(out, s)
}

// name is that of the value at a place; its number has as many digits as all others, so that names rise.
func name(i int) string {
	return "n" + strconv.Itoa(100+i)
}
