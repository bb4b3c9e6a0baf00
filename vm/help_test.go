package vm_test

import (
	"fmt"
	"reflect"
	"slices"
	"strings"
	"testing"
	"unsafe"

	"codicil/api"
	"codicil/code"
	"codicil/parse"
	"codicil/value"
	"codicil/vm"
)

func xs(n int) string { return strings.Repeat("x", n) }

func step(kind api.StepKind) api.Step { return api.Step{Kind: kind} }

func whole(n int64) api.Step { return api.Step{Kind: api.StepInt, N: n} }

func text(s string) api.Step { return api.Step{Kind: api.StepText, Text: s} }

func path(s string) api.Step { return api.Step{Kind: api.StepPath, Text: s} }

func list(n int) api.Step { return api.Step{Kind: api.StepList, N: int64(n)} }

// structOf is a step with names, which have a comma between.
func structOf(names ...string) api.Step {
	return api.Step{Kind: api.StepStruct, N: int64(len(names)), Text: strings.Join(names, ",")}
}

// names are n that are all unlike; they do not rise.
func names(n int) []string {
	var out []string
	for i := range n {
		out = append(out, fmt.Sprint("n", n-i))
	}
	return out
}

func steps(l ...api.Step) []api.Step { return l }

// times is something, so many times.
func times[T any](n int, x T) []T {
	var l []T
	for range n {
		l = append(l, x)
	}
	return l
}

// pairing are the steps that take two, AND and OR last.
var pairing = steps(step(api.StepAdd), step(api.StepSub), step(api.StepMul), step(api.StepEqual), step(api.StepUnlike), step(api.StepLess), step(api.StepMost), step(api.StepMore), step(api.StepLeast), step(api.StepAnd), step(api.StepOr))

// unary are the steps that take one.
var unary = steps(step(api.StepNeg), step(api.StepNot), step(api.StepIsNull))

// leaves are steps that take none, of each kind.
var leaves = steps(step(api.StepNull), step(api.StepTrue), step(api.StepFalse), whole(0), whole(7), whole(1<<63-1), text(""), text("it's"), text("é\x00"), text(xs(1024)), path("a"), path("l.0"), path("u.inner.deep"), path("nothing"), path("l.9"), list(0), structOf())

func do(s api.Step) api.Instr { return api.Instr{Op: api.OpStep, Step: s} }

func and(to int) api.Instr { return api.Instr{Op: api.OpAnd, To: to} }

func or(to int) api.Instr { return api.Instr{Op: api.OpOr, To: to} }

func program(l ...api.Instr) []api.Instr { return l }

// The instructions that have nothing.
var (
	flagOp = api.Instr{Op: api.OpFlag}
	joinOp = api.Instr{Op: api.OpJoin}
)

func null() api.Value { return api.Value{} }

func flag(b bool) api.Value { return api.Value{Kind: api.KindBool, B: b} }

func number(n int64) api.Value { return api.Value{Kind: api.KindInt, N: n} }

func word(s string) api.Value { return api.Value{Kind: api.KindText, S: s} }

func blob(s string) api.Value { return api.Value{Kind: api.KindBlob, S: s} }

func all(l ...api.Value) api.Value { return api.Value{Kind: api.KindList, List: l} }

// doc is a struct; names and values take turns.
func doc(l ...any) api.Value {
	v := api.Value{Kind: api.KindStruct}
	for i := 0; i < len(l); i += 2 {
		v.Fields = append(v.Fields, api.Field{Name: l[i].(string), Value: l[i+1].(api.Value)})
	}
	return v
}

// nested is v with so many lists around it.
func nested(lists int, v api.Value) api.Value {
	for range lists {
		v = all(v)
	}
	return v
}

// row is a document with something of each kind.
func row() api.Value {
	return doc("a", number(1), "b", flag(true), "l", all(number(7), all(), doc("x", word("in")), null()), "n", null(), "s", word("x"), "u", doc("0", word("nought"), "inner", doc("deep", number(5))), "z", blob("\xff\x00"))
}

// samples are values of each kind, some of each, some nested as deep as may be.
func samples() []api.Value {
	return []api.Value{
		null(), flag(false), flag(true), number(-1 << 63), number(-1), number(0), number(1), number(1<<63 - 1), word(""), word("a"), word("b"), word("é"), word(xs(1024)), blob(""), blob("a"), blob("\xff"),
		all(), all(null()), all(number(1)), all(number(1), number(2)), all(all()), doc(), doc("a", null()), doc("a", number(1)), doc("a", number(1), "b", flag(true)), doc("b", all(word("x"))),
		nested(5, doc("a", number(1))), nested(6, number(1)), nested(6, number(2)), doc("a", nested(5, null())),
	}
}

// wrongSteps are steps that are not right.
func wrongSteps() []api.Step {
	out := steps(step(api.StepNone), step(api.StepCount), step(99), step(255), whole(-1), whole(-1<<63), api.Step{Kind: api.StepInt, Text: "1"}, text("\xff"), text(xs(1025)), api.Step{Kind: api.StepText, Text: "x", N: 1},
		path(""), path("a."), path(".a"), path("0"), path("a b"), path("select"), path("a.01"), path("\xff"), path(xs(65)), api.Step{Kind: api.StepPath, Text: "a", N: 1}, list(-1), list(65), api.Step{Kind: api.StepList, Text: "a"}, api.Step{Kind: api.StepList, N: 2, Text: "a,b"},
		api.Step{Kind: api.StepStruct, N: 1}, api.Step{Kind: api.StepStruct, Text: "a"}, api.Step{Kind: api.StepStruct, N: 1, Text: "x,y"}, api.Step{Kind: api.StepStruct, N: 2, Text: "x"}, structOf("x", "x"), structOf("a b"), structOf("", ""), structOf(names(65)...), api.Step{Kind: api.StepStruct, N: -1})
	for _, s := range append(append(steps(step(api.StepNull), step(api.StepTrue), step(api.StepFalse)), unary...), pairing...) {
		out = append(out, api.Step{Kind: s.Kind, N: 1}, api.Step{Kind: s.Kind, N: -1}, api.Step{Kind: s.Kind, Text: "x"})
	}
	return out
}

// wrongPrograms are programs that are not right.
func wrongPrograms() [][]api.Instr {
	no := do(step(api.StepNull))
	out := [][]api.Instr{nil, {}, {no, no}, {{}}, {{Op: api.OpCount}}, {{Op: 255}}, {flagOp}, {joinOp}, {and(1)}, {or(1)}, {no, joinOp}, {no, and(2)}, {no, and(1)}, {no, and(3)}, {no, or(0)}, {no, or(3)}, {no, or(3), no}, {no, or(-1)}, {no, flagOp, no}, {no, {Op: api.OpFlag, To: 1}}, {no, no, {Op: api.OpJoin, To: 3}}, {no, {Op: api.OpFlag, Step: no.Step}}, {{Op: api.OpStep, Step: no.Step, To: 1}}, {no, no, do(step(api.StepAnd))}, {no, no, do(step(api.StepOr))}, append(times(256, no), do(list(64))), append(times(1, no), times(256, flagOp)...)}
	for _, s := range wrongSteps() {
		out = append(out, program(do(s)), program(no, do(s)), program(no, no, do(s)))
	}
	return out
}

// wrongValues are values that are not right, and why.
func wrongValues() map[api.Errno][]api.Value {
	return map[api.Errno][]api.Value{
		api.ErrType:  {{Kind: api.KindCount}, {Kind: 255}, {N: 1}, {Kind: api.KindInt, B: true}, {Kind: api.KindBool, S: "x"}, {Kind: api.KindStruct, List: []api.Value{{}}}, doc("a", api.Value{S: "x"}), doc("a", all(api.Value{Kind: 99}))},
		api.ErrLong:  {word(xs(1025)), blob(xs(1025)), doc("", number(1)), doc(xs(1025), number(1)), doc("a", word(xs(1025)))},
		api.ErrUtf:   {word("\xff"), doc("\xff", number(1)), doc("a", all(word("\xff")))},
		api.ErrMany:  {all(make([]api.Value, 65)...), {Kind: api.KindStruct, Fields: make([]api.Field, 65)}},
		api.ErrDepth: {nested(7, null()), doc("a", nested(6, null())), nested(65536, null())},
		api.ErrTwice: {doc("a", null(), "a", null()), doc("b", null(), "a", null())},
	}
}

// read is the expression that a text is.
func read(t *testing.T, s string) []api.Step {
	t.Helper()
	x, why, at := parse.Parse("DELETE FROM t WHERE " + s)
	if why != api.OK {
		t.Fatalf("Parse(%s): error %d at %d", show(s), why, at)
	}
	return x.Expr
}

// compiled is the program of the expression that a text is.
func compiled(t *testing.T, s string) []api.Instr {
	t.Helper()
	p, why := code.Compile(read(t, s))
	if why != api.OK {
		t.Fatalf("Compile(%s): error %d", show(s), why)
	}
	return p
}

// made fails, unless a step makes that of values.
func made(t *testing.T, s api.Step, row api.Value, l []api.Value, want api.Value) {
	t.Helper()
	if v, why := vm.Step(s, row, l); why != api.OK || !value.Same(v, want) {
		t.Errorf("%s of %s, %s: %s, error %d, not %s", show(s), show(row), show(l), show(v), why, show(want))
	}
}

// unmade fails, unless a step of values has that error, and nothing else.
func unmade(t *testing.T, s api.Step, row api.Value, l []api.Value, want api.Errno) {
	t.Helper()
	if v, why := vm.Step(s, row, l); why != want || !value.Same(v, null()) {
		t.Errorf("%s of %s, %s: %s, error %d, not %d", show(s), show(row), show(l), show(v), why, want)
	}
}

// ends fails, unless a run ends so, with so much fuel left; and Holds, too.
func ends(t *testing.T, p []api.Instr, row api.Value, fuel int, want api.Value, left int, why api.Errno) {
	t.Helper()
	if v, rest, no := vm.Run(p, row, fuel); no != why || rest != left || !value.Same(v, want) {
		t.Errorf("Run(%s, %s, %d): %s, %d left, error %d, not %s, %d left, error %d", shown(p), show(row), fuel, show(v), rest, no, show(want), left, why)
	}
	if why == api.OK && want.Kind != api.KindNull && want.Kind != api.KindBool {
		why = api.ErrType
	}
	holds := why == api.OK && want.B
	if is, rest, no := vm.Holds(p, row, fuel); no != why || rest != left || is != holds {
		t.Errorf("Holds(%s, %s, %d): %v, %d left, error %d, not %v, %d left, error %d", shown(p), show(row), fuel, is, rest, no, holds, left, why)
	}
}

// refused fails, unless there is no run, by that error, and nothing else is told.
func refused(t *testing.T, p []api.Instr, row api.Value, fuel int, why api.Errno) {
	t.Helper()
	ends(t, p, row, fuel, null(), 0, why)
}

// stepAsSaid fails, unless Step answers what the chapter says, and tells the error.
func stepAsSaid(t *testing.T, s api.Step, row api.Value, l []api.Value) api.Errno {
	t.Helper()
	want, why := saidStep(s, row, l)
	if why == api.OK {
		made(t, s, row, l, want)
	} else {
		unmade(t, s, row, l, why)
	}
	return why
}

// runAsSaid fails, unless Run and Holds answer what the chapter says, and tells the error.
func runAsSaid(t *testing.T, p []api.Instr, row api.Value, fuel int) api.Errno {
	t.Helper()
	want, left, why := saidRun(p, row, fuel)
	ends(t, p, row, fuel, want, left, why)
	return why
}

// shown is a program as a failure tells it, an instruction after the other.
func shown(p []api.Instr) string {
	var out []string
	for _, in := range p {
		switch in {
		case do(in.Step):
			out = append(out, fmt.Sprint(in.Step))
		case and(in.To):
			out = append(out, fmt.Sprint("AND ", in.To))
		case or(in.To):
			out = append(out, fmt.Sprint("OR ", in.To))
		case flagOp:
			out = append(out, "FLAG")
		case joinOp:
			out = append(out, "JOIN")
		default:
			out = append(out, fmt.Sprint(in))
		}
	}
	return show(strings.Join(out, ", "))
}

// show is what a failure tells of something that may be long.
func show(x any) string {
	s := fmt.Sprintf("%q", fmt.Sprint(x))
	return s[:min(len(s), 400)]
}

// twin is a copy that shares no lists.
func twin(v api.Value) api.Value {
	v.List = slices.Clone(v.List)
	for i := range v.List {
		v.List[i] = twin(v.List[i])
	}
	v.Fields = slices.Clone(v.Fields)
	for i := range v.Fields {
		v.Fields[i].Value = twin(v.Fields[i].Value)
	}
	return v
}

// lent is a text whose bytes can be changed behind its back.
func lent(s string) (string, func()) {
	b := []byte(s)
	return unsafe.String(&b[0], len(b)), func() {
		for i := range b {
			b[i] = '!'
		}
	}
}

// span is a piece of memory.
type span struct{ from, to uintptr }

// spans are the pieces of memory in which texts and lists of x lie.
func spans(x reflect.Value) []span {
	var out []span
	switch x.Kind() {
	case reflect.String:
		if x.Len() > 0 {
			from := uintptr(x.UnsafePointer())
			out = append(out, span{from, from + uintptr(x.Len())})
		}
	case reflect.Slice:
		if x.Cap() > 0 {
			from := x.Pointer()
			out = append(out, span{from, from + uintptr(x.Cap())*x.Type().Elem().Size()})
		}
		for i := range x.Len() {
			out = append(out, spans(x.Index(i))...)
		}
	case reflect.Struct:
		for i := range x.NumField() {
			out = append(out, spans(x.Field(i))...)
		}
	}
	return out
}

// apart fails, if an answer shares memory with itself or with one of the others.
func apart(t *testing.T, answer any, others ...any) {
	t.Helper()
	own := spans(reflect.ValueOf(answer))
	var all []span
	for _, o := range others {
		all = append(all, spans(reflect.ValueOf(o))...)
	}
	for i, a := range own {
		for _, b := range append(all[:len(all):len(all)], own[i+1:]...) {
			if a.from < b.to && b.from < a.to {
				t.Fatal("shared memory in", show(answer))
			}
		}
	}
}
