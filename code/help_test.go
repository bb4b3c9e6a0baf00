package code_test

import (
	"fmt"
	"reflect"
	"slices"
	"strings"
	"testing"
	"unsafe"

	"codicil/api"
	"codicil/code"
	"codicil/parse"
)

func xs(n int) string { return strings.Repeat("x", n) }

func step(kind api.StepKind) api.Step { return api.Step{Kind: kind} }

func whole(n int64) api.Step { return api.Step{Kind: api.StepInt, N: n} }

func text(s string) api.Step { return api.Step{Kind: api.StepText, Text: s} }

func path(s string) api.Step { return api.Step{Kind: api.StepPath, Text: s} }

func list(n int) api.Step { return api.Step{Kind: api.StepList, N: int64(n)} }

// structOf is a step with names, which have a comma between.
func structOf(names ...string) api.Step {
	return api.Step{Kind: api.StepStruct, N: int64(len(names)), Text: strings.Join(names, ",")}
}

// names are n that are all unlike, of so many bytes.
func names(n, size int) []string {
	var out []string
	for i := range n {
		name := fmt.Sprint("n", 100+i)
		out = append(out, name+xs(size-len(name)))
	}
	return out
}

func steps(l ...api.Step) []api.Step { return l }

// times is something, so many times.
func times[T any](n int, x T) []T {
	var l []T
	for range n {
		l = append(l, x)
	}
	return l
}

// pairing are the steps that take two, AND and OR last.
var pairing = steps(step(api.StepAdd), step(api.StepSub), step(api.StepMul), step(api.StepEqual), step(api.StepUnlike), step(api.StepLess), step(api.StepMost), step(api.StepMore), step(api.StepLeast), step(api.StepAnd), step(api.StepOr))

// unary are the steps that take one.
var unary = steps(step(api.StepNeg), step(api.StepNot), step(api.StepIsNull))

// leaves are steps that take none, of each kind.
var leaves = steps(step(api.StepNull), step(api.StepTrue), step(api.StepFalse), whole(0), whole(7), whole(1<<63-1), text(""), text("it's"), text("é\x00"), text(xs(1024)), path("a"), path("a.b.0"), path("_x.y"), list(0), structOf())

func do(s api.Step) api.Instr { return api.Instr{Op: api.OpStep, Step: s} }

func and(to int) api.Instr { return api.Instr{Op: api.OpAnd, To: to} }

func or(to int) api.Instr { return api.Instr{Op: api.OpOr, To: to} }

func program(l ...api.Instr) []api.Instr { return l }

// The instructions that have nothing, and some that are often met.
var (
	flag = api.Instr{Op: api.OpFlag}
	join = api.Instr{Op: api.OpJoin}
	null = do(step(api.StepNull))
	not  = do(step(api.StepNot))
	same = do(step(api.StepEqual))
)

// wrongSteps are steps that are not right.
func wrongSteps() []api.Step {
	out := steps(step(api.StepNone), step(api.StepCount), step(99), step(255), whole(-1), whole(-1<<63), api.Step{Kind: api.StepInt, Text: "1"}, text("\xff"), text(xs(1025)), api.Step{Kind: api.StepText, Text: "x", N: 1},
		path(""), path("a."), path(".a"), path("a..b"), path("0"), path("a b"), path("select"), path("a.01"), path("\xff"), path(xs(65)), path("a"+strings.Repeat(".b", 512)), api.Step{Kind: api.StepPath, Text: "a", N: 1},
		list(-1), list(65), list(1<<40), api.Step{Kind: api.StepList, Text: "a"}, api.Step{Kind: api.StepStruct, N: 1}, api.Step{Kind: api.StepStruct, Text: "a"}, api.Step{Kind: api.StepStruct, N: 1, Text: "x,y"}, api.Step{Kind: api.StepStruct, N: 2, Text: "x"},
		structOf("x", "x"), structOf("a b"), structOf("select"), structOf("", ""), structOf(names(65, 4)...), api.Step{Kind: api.StepStruct, N: -1}, api.Step{Kind: api.StepStruct, N: 1 << 62})
	for _, s := range append(append(steps(step(api.StepNull), step(api.StepTrue), step(api.StepFalse)), unary...), pairing...) {
		out = append(out, api.Step{Kind: s.Kind, N: 1}, api.Step{Kind: s.Kind, N: -1}, api.Step{Kind: s.Kind, Text: "x"})
	}
	return out
}

// wrongExprs are expressions that are not right.
func wrongExprs() [][]api.Step {
	a, yes := path("a"), step(api.StepTrue)
	out := [][]api.Step{
		nil, {}, {a, a}, {step(api.StepNot)}, {a, step(api.StepAdd)}, {a, step(api.StepAnd)}, {step(api.StepOr)}, {a, a, step(api.StepAdd), a}, {list(1)}, {a, list(2)}, {a, structOf("x", "y")}, {a, step(api.StepOr), a}, {step(api.StepAnd), a, a},
		{yes, yes, step(api.StepOr), step(api.StepOr)}, make([]api.Step, 129), times(129, yes), slices.Concat(times(65, a), times(64, step(api.StepAdd))), slices.Concat(steps(a), times(128, step(api.StepNot))), slices.Concat(times(65, a), times(64, step(api.StepAnd))),
	}
	for _, s := range wrongSteps() {
		out = append(out, steps(s), steps(a, s), steps(a, a, s), steps(a, s, step(api.StepAnd)))
	}
	return out
}

// read is the expression that a text is.
func read(t *testing.T, s string) []api.Step {
	t.Helper()
	x, why, at := parse.Parse("DELETE FROM t WHERE " + s)
	if why != api.OK {
		t.Fatalf("Parse(%s): error %d at %d", show(s), why, at)
	}
	return x.Expr
}

// compiled fails, unless an expression becomes that program.
func compiled(t *testing.T, l []api.Step, want []api.Instr) {
	t.Helper()
	if p, why := code.Compile(l); why != api.OK || !slices.Equal(p, want) {
		t.Errorf("Compile(%s): %s, error %d, not %s", show(l), shown(p), why, shown(want))
	}
	right(t, want)
}

// right fails, unless a program is right.
func right(t *testing.T, p []api.Instr) {
	t.Helper()
	if why := code.Check(p); why != api.OK {
		t.Errorf("Check(%s): error %d", shown(p), why)
	}
}

// wrong fails, unless a program is not right, for Text, too.
func wrong(t *testing.T, p []api.Instr) {
	t.Helper()
	if why := code.Check(p); why != api.ErrForm {
		t.Errorf("Check(%s): error %d", shown(p), why)
	}
	if s, why := code.Text(p); s != "" || why != api.ErrForm {
		t.Errorf("Text(%s): %s, error %d", shown(p), show(s), why)
	}
}

// written fails, unless a program has that text, and is read from it.
func written(t *testing.T, p []api.Instr, want string) {
	t.Helper()
	if s, why := code.Text(p); why != api.OK || s != want {
		t.Errorf("Text(%s): %s, error %d, not %s", shown(p), show(s), why, show(want))
	}
	if q, why := code.Read(want); why != api.OK || !slices.Equal(p, q) {
		t.Errorf("Read(%s): %s, error %d, not %s", show(want), shown(q), why, shown(p))
	}
}

// unread fails, unless Read of a text has that error, and nothing else.
func unread(t *testing.T, s string, want api.Errno) {
	t.Helper()
	if p, why := code.Read(s); len(p) != 0 || why != want {
		t.Errorf("Read(%s): %s, error %d, not %d", show(s), shown(p), why, want)
	}
}

// shown is a program as a failure tells it, an instruction after the other.
func shown(p []api.Instr) string {
	var out []string
	for _, in := range p {
		switch in {
		case do(in.Step):
			out = append(out, fmt.Sprint(in.Step))
		case and(in.To):
			out = append(out, fmt.Sprint("AND ", in.To))
		case or(in.To):
			out = append(out, fmt.Sprint("OR ", in.To))
		case flag:
			out = append(out, "FLAG")
		case join:
			out = append(out, "JOIN")
		default:
			out = append(out, fmt.Sprint(in))
		}
	}
	return show(strings.Join(out, ", "))
}

// show is what a failure tells of something that may be long.
func show(x any) string {
	s := fmt.Sprintf("%q", fmt.Sprint(x))
	return s[:min(len(s), 400)]
}

// lent is a text whose bytes can be changed behind its back.
func lent(s string) (string, func()) {
	b := []byte(s)
	return unsafe.String(&b[0], len(b)), func() {
		for i := range b {
			b[i] = '!'
		}
	}
}

// span is a piece of memory.
type span struct{ from, to uintptr }

// spans are the pieces of memory in which texts and lists of x lie.
func spans(x reflect.Value) []span {
	var out []span
	switch x.Kind() {
	case reflect.String:
		if x.Len() > 0 {
			from := uintptr(x.UnsafePointer())
			out = append(out, span{from, from + uintptr(x.Len())})
		}
	case reflect.Slice:
		if x.Cap() > 0 {
			from := x.Pointer()
			out = append(out, span{from, from + uintptr(x.Cap())*x.Type().Elem().Size()})
		}
		for i := range x.Len() {
			out = append(out, spans(x.Index(i))...)
		}
	case reflect.Struct:
		for i := range x.NumField() {
			out = append(out, spans(x.Field(i))...)
		}
	}
	return out
}

// apart fails, if an answer shares memory with itself or with one of the others.
func apart(t *testing.T, answer any, others ...any) {
	t.Helper()
	own := spans(reflect.ValueOf(answer))
	var all []span
	for _, o := range others {
		all = append(all, spans(reflect.ValueOf(o))...)
	}
	for i, a := range own {
		for _, b := range append(all[:len(all):len(all)], own[i+1:]...) {
			if a.from < b.to && b.from < a.to {
				t.Fatal("shared memory in", show(answer))
			}
		}
	}
}
