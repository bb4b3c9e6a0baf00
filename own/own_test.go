package own_test

import (
	"cmp"
	"fmt"
	"reflect"
	"slices"
	"strings"
	"testing"

	"codicil/api"
	"codicil/own"
)

// session is one with texts and lists in all of its parts, on all levels.
func session() api.Session {
	text := api.Value{Kind: api.KindText, S: "text"}
	all := api.Value{Kind: api.KindStruct, Fields: []api.Field{{Name: "list", Value: api.Value{Kind: api.KindList, List: []api.Value{text, text}}}, {Name: "other", Value: text}}}
	doc := api.Doc{Id: 1, Versions: []api.Version{{Seq: 1, Value: all}, {Seq: 2, Gone: true, Value: text}}}
	table := api.Table{Name: "name", Indexes: []string{"one", "two"}, Docs: []api.Doc{doc, doc}}
	return api.Session{
		Id:         7,
		View:       api.View{Base: api.State{Seq: 3, Last: 4, Tables: []api.Table{table, table}}, Revs: []api.Rev{{Kind: api.RevPut, Table: "name", Doc: 5, Version: 6, Value: all}, {Kind: 99, Value: text}}},
		Reads:      []api.Read{{Table: "name", All: true, Field: "field", Key: all}, {Table: "name", Key: text}},
		Statements: []string{"first", "second", "first"},
		Dead:       true,
	}
}

// whole is a ledger with texts and lists in all of its parts.
func whole() api.Ledger {
	x := session()
	b := api.Block{Seq: 9, Prev: "prev", Root: "root", Statements: x.Statements, Revs: x.View.Revs}
	return api.Ledger{Blocks: []api.Block{b, b}, State: x.View.Base, Prev: b.Prev, Sessions: []api.Session{x, x}, Last: 8}
}

// A ledger is copied as its sessions are, and so is a revision.
func TestLedgerCopies(t *testing.T) {
	l := whole()
	was := twin(l)
	got := own.Ledger(l)
	if !same(got, l) || !same(l, was) {
		t.Errorf("%s, not %s", show(got), show(was))
	}
	apart(t, got, l, own.Ledger(l))
	for _, r := range l.Blocks[0].Revs {
		x := own.Rev(r)
		if !same(x, r) {
			t.Errorf("%s, not %s", show(x), show(r))
		}
		apart(t, x, r, own.Rev(r))
	}
	if got := own.Ledger(api.Ledger{Blocks: []api.Block{}, Sessions: make([]api.Session, 0, 3)}); !reflect.DeepEqual(got, api.Ledger{}) {
		t.Errorf("%#v", got)
	}
}

// A disk is copied, whatever is on it.
func TestDiskCopies(t *testing.T) {
	for _, d := range []api.Disk{{}, {Data: "bytes", Synced: 2, Cap: 9, Down: true, Fuse: 3}} {
		got := own.Disk(d)
		if got != d {
			t.Errorf("%s, not %s", show(got), show(d))
		}
		apart(t, got, d, own.Disk(d))
	}
}

// States are the same, if all of their parts are.
func TestSame(t *testing.T) {
	s := session().View.Base
	empty := api.State{Tables: []api.Table{{Indexes: []string{}, Docs: []api.Doc{{Versions: []api.Version{}}}}}}
	if !own.Same(s, twin(s)) || !own.Same(api.State{}, api.State{Tables: []api.Table{}}) || !own.Same(empty, api.State{Tables: []api.Table{{Docs: []api.Doc{{}}}}}) {
		t.Error("states are unlike their copies")
	}
	for i, with := range []func(s *api.State){
		func(s *api.State) { s.Seq++ },
		func(s *api.State) { s.Last++ },
		func(s *api.State) { s.Tables = s.Tables[:1] },
		func(s *api.State) { s.Tables = nil },
		func(s *api.State) { s.Tables[1].Name = "other" },
		func(s *api.State) { s.Tables[1].Indexes = s.Tables[1].Indexes[:1] },
		func(s *api.State) { s.Tables[1].Indexes[1] = "other" },
		func(s *api.State) { s.Tables[0].Docs = s.Tables[0].Docs[1:] },
		func(s *api.State) { s.Tables[0].Docs[1].Id++ },
		func(s *api.State) { s.Tables[0].Docs[1].Versions = s.Tables[0].Docs[1].Versions[:1] },
		func(s *api.State) { s.Tables[0].Docs[1].Versions[0].Seq++ },
		func(s *api.State) { s.Tables[0].Docs[1].Versions[0].Gone = true },
		func(s *api.State) { s.Tables[0].Docs[1].Versions[0].Value.Fields[1].Value.S = "other" },
		func(s *api.State) { s.Tables[0].Docs[1].Versions[1].Value.N = 1 },
	} {
		x := twin(s)
		with(&x)
		if own.Same(s, x) || own.Same(x, s) {
			t.Errorf("%d: %s is the same as %s", i, show(x), show(s))
		}
	}
}

// What is copied is the same, and shares no memory, with itself neither, though what was handed in does.
func TestCopies(t *testing.T) {
	x := session()
	was := twin(x)
	y := own.Session(x)
	if !same(y, x) || !same(x, was) {
		t.Errorf("%s, not %s", show(y), show(was))
	}
	apart(t, y, x, own.Session(x))
	v, s := own.View(x.View), own.State(x.View.Base)
	if !same(v, x.View) || !same(s, x.View.Base) {
		t.Errorf("%s, %s", show(v), show(s))
	}
	apart(t, v, x, own.View(x.View))
	apart(t, s, x, own.State(x.View.Base))
}

// Of empty lists there come none.
func TestEmptyLists(t *testing.T) {
	empty := api.Session{
		View:       api.View{Base: api.State{Tables: []api.Table{{Indexes: []string{}, Docs: []api.Doc{{Versions: []api.Version{}}}}}}, Revs: []api.Rev{}},
		Reads:      []api.Read{},
		Statements: make([]string, 0, 9),
	}
	bare := api.Session{View: api.View{Base: api.State{Tables: []api.Table{{Docs: []api.Doc{{}}}}}}}
	if got := own.Session(empty); !reflect.DeepEqual(got, bare) {
		t.Errorf("%#v", got)
	}
	if got := own.Session(api.Session{}); !reflect.DeepEqual(got, api.Session{}) {
		t.Errorf("%#v", got)
	}
}

// show is what a failure tells of something that may be long.
func show(x any) string {
	s := fmt.Sprintf("%q", fmt.Sprint(x))
	return s[:min(len(s), 600)]
}

// same tells whether two things are alike, nil and empty lists being so, too.
func same(a, b any) bool { return alike(reflect.ValueOf(a), reflect.ValueOf(b)) }

func alike(a, b reflect.Value) bool {
	switch a.Kind() {
	case reflect.Slice:
		if a.Len() != b.Len() {
			return false
		}
		for i := range a.Len() {
			if !alike(a.Index(i), b.Index(i)) {
				return false
			}
		}
		return true
	case reflect.Struct:
		for i := range a.NumField() {
			if !alike(a.Field(i), b.Field(i)) {
				return false
			}
		}
		return true
	}
	return a.Equal(b)
}

// twin is a copy that shares no lists and no texts.
func twin[T any](x T) T {
	copyTo(reflect.ValueOf(&x).Elem(), reflect.ValueOf(x))
	return x
}

func copyTo(to, from reflect.Value) {
	switch from.Kind() {
	case reflect.String:
		to.SetString(strings.Clone(from.String()))
	case reflect.Slice:
		if from.IsNil() {
			return
		}
		l := reflect.MakeSlice(from.Type(), from.Len(), from.Len())
		for i := range from.Len() {
			copyTo(l.Index(i), from.Index(i))
		}
		to.Set(l)
	case reflect.Struct:
		for i := range from.NumField() {
			copyTo(to.Field(i), from.Field(i))
		}
	default:
		to.Set(from)
	}
}

// span is a piece of memory; own: it is an answer's.
type span struct {
	from, to uintptr
	own      bool
}

// spans are the pieces of memory in which texts and lists of x lie.
func spans(x reflect.Value, own bool) []span {
	var out []span
	switch x.Kind() {
	case reflect.String:
		if x.Len() > 0 {
			from := uintptr(x.UnsafePointer())
			out = append(out, span{from, from + uintptr(x.Len()), own})
		}
	case reflect.Slice:
		if x.Cap() > 0 {
			from := x.Pointer()
			out = append(out, span{from, from + uintptr(x.Cap())*x.Type().Elem().Size(), own})
		}
		for i := range x.Len() {
			out = append(out, spans(x.Index(i), own)...)
		}
	case reflect.Struct:
		for i := range x.NumField() {
			out = append(out, spans(x.Field(i), own)...)
		}
	}
	return out
}

// apart fails, if an answer shares memory with itself or with one of the others.
func apart(t *testing.T, answer any, others ...any) {
	t.Helper()
	l := spans(reflect.ValueOf(answer), true)
	for _, o := range others {
		l = append(l, spans(reflect.ValueOf(o), false)...)
	}
	slices.SortFunc(l, func(a, b span) int { return cmp.Compare(a.from, b.from) })
	var end, ownEnd uintptr
	for _, s := range l {
		if s.from < ownEnd || s.own && s.from < end {
			t.Fatal("shared memory in", show(answer))
		}
		end = max(end, s.to)
		if s.own {
			ownEnd = max(ownEnd, s.to)
		}
	}
}
