package plan_test

import (
	"fmt"
	"reflect"
	"slices"
	"strings"
	"testing"
	"unsafe"

	"codicil/api"
	"codicil/expr"
	"codicil/parse"
	"codicil/plan"
	"codicil/table"
	"codicil/value"
)

func xs(n int) string { return strings.Repeat("x", n) }

func step(kind api.StepKind) api.Step { return api.Step{Kind: kind} }

func whole(n int64) api.Step { return api.Step{Kind: api.StepInt, N: n} }

func text(s string) api.Step { return api.Step{Kind: api.StepText, Text: s} }

func path(s string) api.Step { return api.Step{Kind: api.StepPath, Text: s} }

func steps(l ...api.Step) []api.Step { return l }

func null() api.Value { return api.Value{} }

func flag(b bool) api.Value { return api.Value{Kind: api.KindBool, B: b} }

func number(n int64) api.Value { return api.Value{Kind: api.KindInt, N: n} }

func word(s string) api.Value { return api.Value{Kind: api.KindText, S: s} }

func all(l ...api.Value) api.Value { return api.Value{Kind: api.KindList, List: l} }

// doc is a struct; names and values take turns.
func doc(l ...any) api.Value {
	v := api.Value{Kind: api.KindStruct}
	for i := 0; i < len(l); i += 2 {
		v.Fields = append(v.Fields, api.Field{Name: l[i].(string), Value: l[i+1].(api.Value)})
	}
	return v
}

// versions are a document's, one a block from a number on; null is a version that is gone.
func versions(seq uint64, l ...api.Value) []api.Version {
	var out []api.Version
	for i, v := range l {
		out = append(out, api.Version{Seq: seq + uint64(i), Gone: v.Kind == api.KindNull, Value: v})
	}
	return out
}

// small is a right state with a bit of everything: the table t has indexes a and b, u has none, the index of v has a full stop in its name.
func small() api.State {
	return api.State{Seq: 9, Last: 30, Tables: []api.Table{
		{Name: "t", Indexes: []string{"a", "b"}, Docs: []api.Doc{
			{Id: 2, Versions: versions(1, doc("a", number(1), "b", number(5)))},
			{Id: 3, Versions: versions(1, doc("a", number(1)), doc("a", number(2)))},         // put again, under another key
			{Id: 5, Versions: versions(2, doc("a", number(2)), doc("a", number(1)))},         // likewise
			{Id: 6, Versions: versions(2, doc("a", number(1)), null())},                      // dropped
			{Id: 7, Versions: versions(3, doc("b", number(1)))},                              // the field is not there
			{Id: 8, Versions: versions(3, doc("a", null(), "b", word("x")))},                 // is null
			{Id: 11, Versions: versions(3, doc("a", word("1")))},                             // is of another kind
			{Id: 12, Versions: versions(3, doc("a", flag(true)))},                            // likewise
			{Id: 13, Versions: versions(3, doc("a", all(number(1))))},                        // likewise
			{Id: 14, Versions: versions(3, doc("a", doc("a", number(1))))},                   // likewise
			{Id: 15, Versions: versions(3, doc("a", api.Value{Kind: api.KindBlob, S: "1"}))}, // likewise
			{Id: 17, Versions: versions(3, doc("a", number(-1), "b", number(5)))},
			{Id: 18, Versions: versions(4, doc(), doc("a", number(1), "b", number(7)), doc("a", number(1)))},
			{Id: 19, Versions: versions(9, doc("a", word("")))},
			{Id: 30, Versions: versions(9, doc("a", number(1)))},
		}},
		{Name: "u", Docs: []api.Doc{{Id: 1, Versions: versions(1, doc("a", number(1)))}, {Id: 4, Versions: versions(1, doc("a", number(2)), null())}}},
		{Name: "v", Indexes: []string{"a.b", "b", "é", "select"}, Docs: []api.Doc{{Id: 20, Versions: versions(1, doc("a", doc("b", number(1)), "a.b", number(2), "é", number(1)))}}},
		{Name: "w", Indexes: []string{"a"}},
	}}
}

// with is a statement over the table t with a condition.
func with(kind api.StmtKind, l ...api.Step) api.Stmt {
	x := api.Stmt{Kind: kind, Table: "t", Expr: l}
	if kind == api.StmtUpdate {
		x.Items = []api.Item{{Name: "c", Expr: steps(path("a"))}}
	}
	return x
}

// read is the statement that a text is.
func read(t *testing.T, s string) api.Stmt {
	t.Helper()
	x, why, at := parse.Parse(s)
	if why != api.OK {
		t.Fatalf("Parse(%s): error %d at %d", show(s), why, at)
	}
	return x
}

// where is the expression that a text is.
func where(t *testing.T, s string) []api.Step {
	t.Helper()
	return read(t, "DELETE FROM t WHERE "+s).Expr
}

// made fails, unless a statement can be done, and tells how.
func made(t *testing.T, x api.Stmt, s api.State) api.Plan {
	t.Helper()
	p, why := plan.Make(x, s)
	if why != api.OK {
		t.Errorf("Make(%s): error %d", show(x), why)
	}
	return p
}

// refused fails, unless Make, and Rows of what it may have been, have that error, and nothing else.
func refused(t *testing.T, x api.Stmt, s api.State, want api.Errno) {
	t.Helper()
	if p, why := plan.Make(x, s); why != want || !samePlan(p, api.Plan{}) {
		t.Errorf("Make(%s): %s, error %d, not %d", show(x), show(p), why, want)
	}
	for _, p := range []api.Plan{{Stmt: x}, {Stmt: x, HasKey: true, Index: "a", Key: number(1)}, {Stmt: x, Key: number(1)}} {
		if l, why := plan.Rows(p, s); why != want || len(l) > 0 {
			t.Errorf("Rows(%s): %s, error %d, not %d", show(p), show(l), why, want)
		}
	}
}

// rowsAre fails, unless a plan looks at just these rows.
func rowsAre(t *testing.T, p api.Plan, s api.State, want []api.Row) {
	t.Helper()
	if l, why := plan.Rows(p, s); why != api.OK || !sameRows(l, want) {
		t.Errorf("Rows(%s): %s, error %d, not %s", show(p), show(l), why, show(want))
	}
}

// What follows are the chapter's words to the letter, by other means than the package's.

// saidFirst is First of anything.
func saidFirst(l []api.Step) []api.Step {
	if !parse.Right(l) {
		return nil
	}
	for l[len(l)-1].Kind == api.StepAnd {
		l, _, _ = expr.Parts(l)
	}
	return l
}

// tableAt is a table's place; below 0, if there is none.
func tableAt(s api.State, name string) int {
	for i, t := range s.Tables {
		if t.Name == name {
			return i
		}
	}
	return -1
}

// saidMake is Make of anything.
func saidMake(x api.Stmt, s api.State) (api.Plan, api.Errno) {
	if parse.Check(x) != api.OK {
		return api.Plan{}, api.ErrSyntax
	}
	if table.Check(s) != api.OK {
		return api.Plan{}, api.ErrState
	}
	at := tableAt(s, x.Table)
	if x.Kind == api.StmtTable && at >= 0 {
		return api.Plan{}, api.ErrTwice
	}
	if x.Kind == api.StmtTable {
		return api.Plan{Stmt: x}, api.OK
	}
	if at < 0 {
		return api.Plan{}, api.ErrName
	}
	indexes := map[string]int{}
	for _, field := range s.Tables[at].Indexes {
		indexes[field]++
	}
	if x.Kind == api.StmtIndex && indexes[x.Field] > 0 {
		return api.Plan{}, api.ErrTwice
	}
	p := api.Plan{Stmt: x}
	first := saidFirst(x.Expr)
	if x.Kind < api.StmtUpdate || x.History || len(first) == 0 || first[len(first)-1].Kind != api.StepEqual {
		return p, api.OK
	}
	a, b, _ := expr.Parts(first)
	// The last one that fits is taken, so that the first part comes last.
	for _, turn := range [][2][]api.Step{{b, a}, {a, b}} {
		key, is := expr.Literal(turn[1])
		l := turn[0]
		if is && len(l) == 1 && l[0].Kind == api.StepPath && len(strings.Split(l[0].Text, ".")) == 1 && indexes[l[0].Text] > 0 {
			p.HasKey, p.Index, p.Key = true, l[0].Text, key
		}
	}
	return p, api.OK
}

// saidRows is Rows of anything.
func saidRows(p api.Plan, s api.State) ([]api.Row, api.Errno) {
	want, why := saidMake(p.Stmt, s)
	if why != api.OK {
		return nil, why
	}
	if !samePlan(p, want) {
		return nil, api.ErrType
	}
	if p.Stmt.Kind < api.StmtUpdate {
		return nil, api.OK
	}
	var out []api.Row
	for _, d := range s.Tables[tableAt(s, p.Stmt.Table)].Docs {
		for i, v := range d.Versions {
			current := i+1 == len(d.Versions) && !v.Gone
			key, has := value.Get(v.Value, []string{p.Index})
			if p.Stmt.History || current && (!p.HasKey || has && value.Same(key, p.Key)) {
				out = append(out, api.Row{Doc: d.Id, Version: uint64(i), Seq: v.Seq, Gone: v.Gone, Value: v.Value})
			}
		}
	}
	return out, api.OK
}

func sameStmts(a, b api.Stmt) bool {
	return a.Kind == b.Kind && a.Table == b.Table && a.Field == b.Field && a.History == b.History && a.Desc == b.Desc && slices.Equal(a.Expr, b.Expr) &&
		slices.EqualFunc(a.Items, b.Items, func(a, b api.Item) bool { return a.Name == b.Name && slices.Equal(a.Expr, b.Expr) })
}

func samePlan(a, b api.Plan) bool {
	return sameStmts(a.Stmt, b.Stmt) && a.HasKey == b.HasKey && a.Index == b.Index && value.Same(a.Key, b.Key)
}

func sameRows(a, b []api.Row) bool {
	return slices.EqualFunc(a, b, func(a, b api.Row) bool {
		return a.Doc == b.Doc && a.Version == b.Version && a.Seq == b.Seq && a.Gone == b.Gone && value.Same(a.Value, b.Value)
	})
}

// ids are the documents of rows.
func ids(l []api.Row) []uint64 {
	var out []uint64
	for _, r := range l {
		out = append(out, r.Doc)
	}
	return out
}

// show is what a failure tells of something that may be long.
func show(x any) string {
	s := fmt.Sprintf("%q", fmt.Sprint(x))
	return s[:min(len(s), 400)]
}

// lent is a text whose bytes can be changed behind its back.
func lent(s string) (string, func()) {
	b := []byte(s)
	return unsafe.String(&b[0], len(b)), func() {
		for i := range b {
			b[i] = '!'
		}
	}
}

// span is a piece of memory.
type span struct{ from, to uintptr }

// spans are the pieces of memory in which texts and lists of x lie.
func spans(x reflect.Value) []span {
	var out []span
	switch x.Kind() {
	case reflect.String:
		if x.Len() > 0 {
			from := uintptr(x.UnsafePointer())
			out = append(out, span{from, from + uintptr(x.Len())})
		}
	case reflect.Slice:
		if x.Cap() > 0 {
			from := x.Pointer()
			out = append(out, span{from, from + uintptr(x.Cap())*x.Type().Elem().Size()})
		}
		for i := range x.Len() {
			out = append(out, spans(x.Index(i))...)
		}
	case reflect.Struct:
		for i := range x.NumField() {
			out = append(out, spans(x.Field(i))...)
		}
	}
	return out
}

// apart fails, if an answer shares memory with itself or with one of the others.
func apart(t *testing.T, answer any, others ...any) {
	t.Helper()
	own := spans(reflect.ValueOf(answer))
	var all []span
	for _, o := range others {
		all = append(all, spans(reflect.ValueOf(o))...)
	}
	for i, a := range own {
		for _, b := range append(all[:len(all):len(all)], own[i+1:]...) {
			if a.from < b.to && b.from < a.to {
				t.Fatal("shared memory in", show(answer))
			}
		}
	}
}
