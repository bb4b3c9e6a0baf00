package view_test

import (
	"cmp"
	"fmt"
	"reflect"
	"slices"
	"strings"
	"testing"
	"unsafe"

	"codicil/api"
	"codicil/table"
	"codicil/view"
)

func xs(n int) string { return strings.Repeat("x", n) }

func null() api.Value { return api.Value{} }

func flag(b bool) api.Value { return api.Value{Kind: api.KindBool, B: b} }

func number(n int64) api.Value { return api.Value{Kind: api.KindInt, N: n} }

func word(s string) api.Value { return api.Value{Kind: api.KindText, S: s} }

func blob(s string) api.Value { return api.Value{Kind: api.KindBlob, S: s} }

func all(l ...api.Value) api.Value { return api.Value{Kind: api.KindList, List: l} }

// doc is a struct; names and values take turns.
func doc(l ...any) api.Value {
	v := api.Value{Kind: api.KindStruct}
	for i := 0; i < len(l); i += 2 {
		v.Fields = append(v.Fields, api.Field{Name: l[i].(string), Value: l[i+1].(api.Value)})
	}
	return v
}

// nested is v with so many lists around it.
func nested(lists int, v api.Value) api.Value {
	for range lists {
		v = all(v)
	}
	return v
}

// many are n things, each made of its number.
func many[T any](n int, of func(i int) T) []T {
	var out []T
	for i := range n {
		out = append(out, of(i))
	}
	return out
}

// name is the one of a number: n0, n1 and so on.
func name(i int) string { return fmt.Sprint("n", i) }

func tableRev(table string) api.Rev { return api.Rev{Kind: api.RevTable, Table: table} }

func indexRev(table, field string) api.Rev {
	return api.Rev{Kind: api.RevIndex, Table: table, Value: word(field)}
}

func putRev(table string, id, version uint64, v api.Value) api.Rev {
	return api.Rev{Kind: api.RevPut, Table: table, Doc: id, Version: version, Value: v}
}

func dropRev(table string, id, version uint64) api.Rev {
	return api.Rev{Kind: api.RevDrop, Table: table, Doc: id, Version: version}
}

// versions are a document's, one a block from a number on; null is a version that is gone.
func versions(seq uint64, l ...api.Value) []api.Version {
	var out []api.Version
	for i, v := range l {
		out = append(out, api.Version{Seq: seq + uint64(i), Gone: v.Kind == api.KindNull, Value: v})
	}
	return out
}

// over is a view of a state whose table t has documents with these values, the first one's Id being 1, and indexes.
func over(values []api.Value, indexes ...string) api.View {
	t := api.Table{Name: "t", Indexes: indexes}
	for i, v := range values {
		t.Docs = append(t.Docs, api.Doc{Id: uint64(i + 1), Versions: versions(1, v)})
	}
	return api.View{Base: api.State{Seq: 1, Last: uint64(len(values)), Tables: []api.Table{t}}}
}

// small is a view with a bit of everything: the table t has indexes a and b, u has none, w has no documents; two documents were put, and one dropped, behind its Base.
func small() api.View {
	return api.View{
		Base: api.State{Seq: 9, Last: 20, Tables: []api.Table{
			{Name: "t", Indexes: []string{"a", "b"}, Docs: []api.Doc{
				{Id: 2, Versions: versions(1, doc("a", number(1), "b", number(5)))},
				{Id: 3, Versions: versions(1, doc("a", number(1)), doc("a", number(2)))},
				{Id: 5, Versions: versions(2, doc("a", number(2)), doc("a", number(1), "b", word("x")))},
				{Id: 6, Versions: versions(2, doc("a", number(1)), null())},
				{Id: 7, Versions: versions(3, doc("b", number(1)))},
				{Id: 8, Versions: versions(3, doc("a", null(), "b", word("x")))},
				{Id: 11, Versions: versions(3, doc("a", word("1"), "c", all(number(1), null())))},
				{Id: 20, Versions: versions(9, doc("a", number(3), "b", number(-5), "c", doc("d", word("in"))))},
			}},
			{Name: "u", Docs: []api.Doc{{Id: 1, Versions: versions(1, doc("a", number(1)))}, {Id: 4, Versions: versions(1, doc("a", number(2)), null())}}},
			{Name: "w", Indexes: []string{"a"}},
		}},
		Revs: []api.Rev{
			putRev("t", 21, 0, doc("a", number(1), "b", number(7))),
			putRev("t", 3, 2, doc("a", number(4), "b", flag(true))),
			dropRev("u", 1, 1),
		},
	}
}

// answer is what Exec tells.
type answer struct {
	View   api.View
	Result api.Result
	Reads  []api.Read
	Why    api.Errno
}

func exec(v api.View, text string, fuel int) answer {
	w, r, reads, why := view.Exec(v, text, fuel)
	return answer{w, r, reads, why}
}

// asSaid fails, unless Exec answers what the chapter says, and leaves what it was handed; it tells the answer.
func asSaid(t *testing.T, v api.View, text string, fuel int) answer {
	t.Helper()
	ahead := twin(v)
	want := said(v, text, fuel)
	got := exec(v, text, fuel)
	if !same(got, want) {
		t.Fatalf("Exec(%s, %s, %d): %s, not %s", show(v), show(text), fuel, show(got), show(want))
	}
	if !same(v, ahead) {
		t.Fatalf("Exec(%s, %s, %d) changed its view: %s", show(ahead), show(text), fuel, show(v))
	}
	return got
}

// does fails, unless a statement is done; it tells the view behind it, and what it came to.
func does(t *testing.T, v api.View, text string) (api.View, api.Result) {
	t.Helper()
	got := asSaid(t, v, text, api.MaxFuel)
	if got.Why != api.OK {
		t.Fatalf("Exec(%s, %s): error %d", show(v), show(text), got.Why)
	}
	return got.View, got.Result
}

// doesAll is the view behind statements.
func doesAll(t *testing.T, v api.View, texts ...string) api.View {
	t.Helper()
	for _, text := range texts {
		v, _ = does(t, v, text)
	}
	return v
}

// comes fails, unless a statement has just these rows and brings just these revisions, with that fuel.
func comes(t *testing.T, v api.View, text string, fuel int, rows []api.Value, revs []api.Rev, left int) {
	t.Helper()
	got := asSaid(t, v, text, fuel)
	want := api.Result{Rows: rows, Count: len(revs), Left: left}
	behind := api.View{Base: v.Base, Revs: slices.Concat(v.Revs, revs)}
	if got.Why != api.OK || !same(got.Result, want) || !same(got.View, behind) {
		t.Errorf("%s with %d: %s, revisions %s, error %d, not %s, revisions %s", text, fuel, show(got.Result), show(got.View.Revs), got.Why, show(want), show(behind.Revs))
	}
}

// rowsAre fails, unless a statement has just these rows, and changes nothing.
func rowsAre(t *testing.T, v api.View, text string, rows ...api.Value) {
	t.Helper()
	left := exec(v, text, api.MaxFuel).Result.Left
	comes(t, v, text, api.MaxFuel, rows, nil, left)
}

// revsAre fails, unless a statement has no rows, and brings just these revisions.
func revsAre(t *testing.T, v api.View, text string, revs ...api.Rev) {
	t.Helper()
	left := exec(v, text, api.MaxFuel).Result.Left
	comes(t, v, text, api.MaxFuel, nil, revs, left)
}

// fails fails, unless a statement has that error, changes nothing, and hangs on all of its table.
func fails(t *testing.T, v api.View, text string, fuel int, why api.Errno, table string) {
	t.Helper()
	want := answer{View: v, Reads: []api.Read{{Table: table, All: true}}, Why: why}
	if got := asSaid(t, v, text, fuel); !same(got, want) {
		t.Errorf("%s with %d: %s, not %s", text, fuel, show(got), show(want))
	}
}

// behind is the state behind revisions.
func behind(t *testing.T, s api.State, seq uint64, revs ...api.Rev) api.State {
	t.Helper()
	for _, r := range revs {
		next, why := table.Do(s, seq, r)
		if why != api.OK {
			t.Fatalf("Do(%s, %d, %s): error %d", show(s), seq, show(r), why)
		}
		s = next
	}
	return s
}

// show is what a failure tells of something that may be long.
func show(x any) string {
	s := fmt.Sprintf("%q", fmt.Sprint(x))
	return s[:min(len(s), 600)]
}

// same tells whether two things are alike, nil and empty lists being so, too.
func same(a, b any) bool { return alike(reflect.ValueOf(a), reflect.ValueOf(b)) }

func alike(a, b reflect.Value) bool {
	switch a.Kind() {
	case reflect.Slice:
		if a.Len() != b.Len() {
			return false
		}
		for i := range a.Len() {
			if !alike(a.Index(i), b.Index(i)) {
				return false
			}
		}
		return true
	case reflect.Struct:
		for i := range a.NumField() {
			if !alike(a.Field(i), b.Field(i)) {
				return false
			}
		}
		return true
	}
	return a.Equal(b)
}

// twin is a copy that shares no lists and no texts.
func twin[T any](x T) T {
	copyTo(reflect.ValueOf(&x).Elem(), reflect.ValueOf(x))
	return x
}

func copyTo(to, from reflect.Value) {
	switch from.Kind() {
	case reflect.String:
		to.SetString(strings.Clone(from.String()))
	case reflect.Slice:
		if from.IsNil() {
			return
		}
		l := reflect.MakeSlice(from.Type(), from.Len(), from.Len())
		for i := range from.Len() {
			copyTo(l.Index(i), from.Index(i))
		}
		to.Set(l)
	case reflect.Struct:
		for i := range from.NumField() {
			copyTo(to.Field(i), from.Field(i))
		}
	default:
		to.Set(from)
	}
}

// lent is a text whose bytes can be changed behind its back.
func lent(s string) (string, func()) {
	b := []byte(s)
	return unsafe.String(&b[0], len(b)), func() {
		for i := range b {
			b[i] = '!'
		}
	}
}

// span is a piece of memory; own: it is an answer's.
type span struct {
	from, to uintptr
	own      bool
}

// spans are the pieces of memory in which texts and lists of x lie.
func spans(x reflect.Value, own bool) []span {
	var out []span
	switch x.Kind() {
	case reflect.String:
		if x.Len() > 0 {
			from := uintptr(x.UnsafePointer())
			out = append(out, span{from, from + uintptr(x.Len()), own})
		}
	case reflect.Slice:
		if x.Cap() > 0 {
			from := x.Pointer()
			out = append(out, span{from, from + uintptr(x.Cap())*x.Type().Elem().Size(), own})
		}
		for i := range x.Len() {
			out = append(out, spans(x.Index(i), own)...)
		}
	case reflect.Struct:
		for i := range x.NumField() {
			out = append(out, spans(x.Field(i), own)...)
		}
	}
	return out
}

// apart fails, if an answer shares memory with itself or with one of the others.
func apart(t *testing.T, answer any, others ...any) {
	t.Helper()
	l := spans(reflect.ValueOf(answer), true)
	for _, o := range others {
		l = append(l, spans(reflect.ValueOf(o), false)...)
	}
	slices.SortFunc(l, func(a, b span) int { return cmp.Compare(a.from, b.from) })
	var end, ownEnd uintptr
	for _, s := range l {
		if s.from < ownEnd || s.own && s.from < end {
			t.Fatal("shared memory in", show(answer))
		}
		end = max(end, s.to)
		if s.own {
			ownEnd = max(ownEnd, s.to)
		}
	}
}
