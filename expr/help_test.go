package expr_test

import (
	"fmt"
	"reflect"
	"slices"
	"strings"
	"testing"
	"unsafe"

	"codicil/api"
	"codicil/expr"
	"codicil/parse"
	"codicil/value"
)

func xs(n int) string { return strings.Repeat("x", n) }

func step(kind api.StepKind) api.Step { return api.Step{Kind: kind} }

func whole(n int64) api.Step { return api.Step{Kind: api.StepInt, N: n} }

func text(s string) api.Step { return api.Step{Kind: api.StepText, Text: s} }

func path(s string) api.Step { return api.Step{Kind: api.StepPath, Text: s} }

func list(n int) api.Step { return api.Step{Kind: api.StepList, N: int64(n)} }

// structOf is a step with names, which have a comma between.
func structOf(names ...string) api.Step {
	return api.Step{Kind: api.StepStruct, N: int64(len(names)), Text: strings.Join(names, ",")}
}

func steps(l ...api.Step) []api.Step { return l }

// join is expressions, one behind the other.
func join(l ...[]api.Step) []api.Step { return slices.Concat(l...) }

func null() api.Value { return api.Value{} }

func flag(b bool) api.Value { return api.Value{Kind: api.KindBool, B: b} }

func number(n int64) api.Value { return api.Value{Kind: api.KindInt, N: n} }

func word(s string) api.Value { return api.Value{Kind: api.KindText, S: s} }

func blob(s string) api.Value { return api.Value{Kind: api.KindBlob, S: s} }

func all(l ...api.Value) api.Value { return api.Value{Kind: api.KindList, List: l} }

// doc is a struct; names and values take turns.
func doc(l ...any) api.Value {
	v := api.Value{Kind: api.KindStruct}
	for i := 0; i < len(l); i += 2 {
		v.Fields = append(v.Fields, api.Field{Name: l[i].(string), Value: l[i+1].(api.Value)})
	}
	return v
}

// nested is v with so many lists around it.
func nested(lists int, v api.Value) api.Value {
	for range lists {
		v = all(v)
	}
	return v
}

// names are n that are all unlike.
func names(n int) []string {
	var out []string
	for i := range n {
		out = append(out, fmt.Sprint("n", i))
	}
	return out
}

// binary are the steps that take two.
var binary = steps(step(api.StepAdd), step(api.StepSub), step(api.StepMul), step(api.StepEqual), step(api.StepUnlike), step(api.StepLess), step(api.StepMost), step(api.StepMore), step(api.StepLeast), step(api.StepAnd), step(api.StepOr))

// unary are the steps that take one.
var unary = steps(step(api.StepNeg), step(api.StepNot), step(api.StepIsNull))

// samples are values of each kind, some of each.
func samples() []api.Value {
	return []api.Value{
		null(), flag(false), flag(true), number(-1 << 63), number(-1), number(0), number(1), number(1<<63 - 1), word(""), word("a"), word("b"), word("é"), word(xs(1024)),
		blob(""), blob("a"), blob("\xff"), all(), all(null()), all(number(1)), all(number(1), number(2)), all(all()), doc(), doc("a", null()), doc("a", number(1)), doc("a", number(1), "b", flag(true)), doc("b", all(word("x"))),
	}
}

// read is the expression that a text is.
func read(t *testing.T, s string) []api.Step {
	t.Helper()
	x, why, at := parse.Parse("DELETE FROM t WHERE " + s)
	if why != api.OK {
		t.Fatalf("Parse(%s): error %d at %d", show(s), why, at)
	}
	return x.Expr
}

// comes fails, unless an expression comes to that value.
func comes(t *testing.T, l []api.Step, row, want api.Value) {
	t.Helper()
	if v, why := expr.Eval(l, row); why != api.OK || !value.Same(v, want) {
		t.Errorf("%s of %s: %s, error %d, not %s", shown(l), show(row), show(v), why, show(want))
	}
}

// fails fails, unless an expression has that error, and nothing else.
func fails(t *testing.T, l []api.Step, row api.Value, want api.Errno) {
	t.Helper()
	if v, why := expr.Eval(l, row); why != want || !value.Same(v, null()) {
		t.Errorf("%s of %s: %s, error %d, not %d", shown(l), show(row), show(v), why, want)
	}
}

// isAsSaid fails, unless Eval answers what the chapter says, which it tells.
func isAsSaid(t *testing.T, l []api.Step, row api.Value) api.Errno {
	t.Helper()
	want, why := said(l, row)
	if why == api.OK {
		comes(t, l, row, want)
	} else {
		fails(t, l, row, why)
	}
	return why
}

// shown is an expression's text, or what it is, if it is not right.
func shown(l []api.Step) string {
	if s, why := parse.Show(l); why == api.OK {
		return show(s)
	}
	return show(l)
}

// show is what a failure tells of something that may be long.
func show(x any) string {
	s := fmt.Sprintf("%q", fmt.Sprint(x))
	return s[:min(len(s), 400)]
}

// twin is a copy that shares no lists.
func twin(v api.Value) api.Value {
	v.List = slices.Clone(v.List)
	for i := range v.List {
		v.List[i] = twin(v.List[i])
	}
	v.Fields = slices.Clone(v.Fields)
	for i := range v.Fields {
		v.Fields[i].Value = twin(v.Fields[i].Value)
	}
	return v
}

// lent is a text whose bytes can be changed behind its back.
func lent(s string) (string, func()) {
	b := []byte(s)
	return unsafe.String(&b[0], len(b)), func() {
		for i := range b {
			b[i] = '!'
		}
	}
}

// span is a piece of memory.
type span struct{ from, to uintptr }

// spans are the pieces of memory in which texts and lists of x lie.
func spans(x reflect.Value) []span {
	var out []span
	switch x.Kind() {
	case reflect.String:
		if x.Len() > 0 {
			from := uintptr(x.UnsafePointer())
			out = append(out, span{from, from + uintptr(x.Len())})
		}
	case reflect.Slice:
		if x.Cap() > 0 {
			from := x.Pointer()
			out = append(out, span{from, from + uintptr(x.Cap())*x.Type().Elem().Size()})
		}
		for i := range x.Len() {
			out = append(out, spans(x.Index(i))...)
		}
	case reflect.Struct:
		for i := range x.NumField() {
			out = append(out, spans(x.Field(i))...)
		}
	}
	return out
}

// apart fails, if an answer shares memory with itself or with one of the others.
func apart(t *testing.T, answer any, others ...any) {
	t.Helper()
	own := spans(reflect.ValueOf(answer))
	var all []span
	for _, o := range others {
		all = append(all, spans(reflect.ValueOf(o))...)
	}
	for i, a := range own {
		for _, b := range append(all[:len(all):len(all)], own[i+1:]...) {
			if a.from < b.to && b.from < a.to {
				t.Fatal("shared memory in", show(answer))
			}
		}
	}
}
