package table_test

import (
	"cmp"
	"fmt"
	"math/rand"
	"reflect"
	"slices"
	"strings"
	"testing"
	"unicode/utf8"
	"unsafe"

	"codicil/api"
	"codicil/journal"
	"codicil/value"
)

func whole(n int64) api.Value { return api.Value{Kind: api.KindInt, N: n} }

func text(s string) api.Value { return api.Value{Kind: api.KindText, S: s} }

func list(l ...api.Value) api.Value { return api.Value{Kind: api.KindList, List: l} }

// doc is a struct; names and values take turns.
func doc(l ...any) api.Value {
	v := api.Value{Kind: api.KindStruct}
	for i := 0; i < len(l); i += 2 {
		v.Fields = append(v.Fields, api.Field{Name: l[i].(string), Value: l[i+1].(api.Value)})
	}
	return v
}

// within is v with so many structs around it.
func within(structs int, v api.Value) api.Value {
	for range structs {
		v = doc("a", v)
	}
	return v
}

func xs(n int) string { return strings.Repeat("x", n) }

func tableRev(name string) api.Rev { return api.Rev{Kind: api.RevTable, Table: name} }

func indexRev(name, field string) api.Rev {
	return api.Rev{Kind: api.RevIndex, Table: name, Value: text(field)}
}

func putRev(name string, id, version uint64, v api.Value) api.Rev {
	return api.Rev{Kind: api.RevPut, Table: name, Doc: id, Version: version, Value: v}
}

func dropRev(name string, id, version uint64) api.Rev {
	return api.Rev{Kind: api.RevDrop, Table: name, Doc: id, Version: version}
}

// first is the digest ahead of all.
var first = strings.Repeat("\x00", 32)

// block is a right one.
func block(t *testing.T, seq uint64, revs ...api.Rev) api.Block {
	t.Helper()
	b, why := journal.Make(seq, first, []string{"a statement"}, revs)
	if why != api.OK {
		t.Fatalf("Make(%d, %s): error %d", seq, show(revs), why)
	}
	return b
}

// from and above are bounds with a key: that lies within, that does not.
func from(v api.Value) api.Bound { return api.Bound{Has: true, Key: v} }

func above(v api.Value) api.Bound { return api.Bound{Has: true, Open: true, Key: v} }

// small is a right state with a bit of everything.
func small() api.State {
	return api.State{Seq: 5, Last: 9, Tables: []api.Table{
		{Name: "t", Indexes: []string{"a", "b"}, Docs: []api.Doc{
			{Id: 1, Versions: []api.Version{{Seq: 1, Value: doc("a", whole(7))}, {Seq: 3, Value: doc("a", whole(2), "b", text("x"))}}},
			{Id: 3, Versions: []api.Version{{Seq: 2, Value: doc("a", whole(2))}, {Seq: 2, Value: doc("a", whole(1))}, {Seq: 4, Gone: true}}},
			{Id: 6, Versions: []api.Version{{Seq: 5, Value: doc("a", api.Value{})}}},
			{Id: 7, Versions: []api.Version{{Seq: 5, Value: doc("b", whole(2))}, {Seq: 5, Value: doc("a", whole(2))}}},
		}},
		{Name: "ü", Docs: []api.Doc{
			{Id: 2, Versions: []api.Version{{Seq: 1, Value: doc()}, {Seq: 1, Gone: true}}},
			{Id: 4, Versions: []api.Version{{Seq: 3, Value: doc("a", list(whole(1), doc("a", text("deep"))))}}},
		}},
		{Name: "v", Indexes: []string{"a"}},
	}}
}

// many is a list of n that are made by their places.
func many[T any](n int, made func(i int) T) []T {
	var l []T
	for i := range n {
		l = append(l, made(i))
	}
	return l
}

func names(n int) []string { return many(n, func(i int) string { return fmt.Sprint("n", i) }) }

// docs are n of one version, their Ids from one on.
func docs(n int, one uint64) []api.Doc {
	return many(n, func(i int) api.Doc {
		return api.Doc{Id: one + uint64(i), Versions: []api.Version{{Seq: 1, Value: doc("a", whole(int64(i)))}}}
	})
}

// tables are n without anything.
func tables(n int) []api.Table {
	return many(n, func(i int) api.Table { return api.Table{Name: fmt.Sprint("n", i)} })
}

// twin is a copy that shares no lists.
func twin(s api.State) api.State {
	s.Tables = slices.Clone(s.Tables)
	for i := range s.Tables {
		t := &s.Tables[i]
		t.Indexes = slices.Clone(t.Indexes)
		t.Docs = slices.Clone(t.Docs)
		for j := range t.Docs {
			d := &t.Docs[j]
			d.Versions = slices.Clone(d.Versions)
			for k := range d.Versions {
				d.Versions[k].Value = twinValue(d.Versions[k].Value)
			}
		}
	}
	return s
}

func twinValue(v api.Value) api.Value {
	v.List = slices.Clone(v.List)
	for i := range v.List {
		v.List[i] = twinValue(v.List[i])
	}
	v.Fields = slices.Clone(v.Fields)
	for i := range v.Fields {
		v.Fields[i].Value = twinValue(v.Fields[i].Value)
	}
	return v
}

// What follows are the chapter's words to the letter.

// isName: from one byte to MaxText, UTF-8.
func isName(s string) bool { return len(s) >= 1 && len(s) <= 1024 && utf8.ValidString(s) }

func isRight(s api.State) bool {
	good := s.Seq <= 1<<62 && s.Last <= 1<<62 && len(s.Tables) <= 16
	names, ids := map[string]int{}, map[uint64]int{}
	for _, t := range s.Tables {
		names[t.Name]++
		good = good && isName(t.Name) && names[t.Name] == 1 && len(t.Indexes) <= 8 && len(t.Docs) <= 256
		fields := map[string]int{}
		for _, f := range t.Indexes {
			fields[f]++
			good = good && isName(f) && fields[f] == 1
		}
		for i, d := range t.Docs {
			ids[d.Id]++
			good = good && 1 <= d.Id && d.Id <= s.Last && ids[d.Id] == 1 && (i == 0 || t.Docs[i-1].Id < d.Id) && areVersions(s, d.Versions)
		}
	}
	return good
}

func areVersions(s api.State, l []api.Version) bool {
	good := len(l) >= 1
	for i, v := range l {
		good = good && 1 <= v.Seq && v.Seq <= s.Seq && (i == 0 || l[i-1].Seq <= v.Seq)
		if v.Gone {
			good = good && i+1 == len(l) && value.Check(v.Value) == api.OK && v.Value.Kind == api.KindNull
		} else {
			good = good && value.Check(v.Value) == api.OK && v.Value.Kind == api.KindStruct
		}
	}
	return good
}

// tableAt is a table's place; below 0, if there is none.
func tableAt(s api.State, name string) int {
	for i, t := range s.Tables {
		if t.Name == name {
			return i
		}
	}
	return -1
}

// done is Do of any arguments.
func done(s api.State, seq uint64, r api.Rev) (api.State, api.Errno) {
	if !isRight(s) {
		return api.State{}, api.ErrState
	}
	if seq < s.Seq || seq == 0 || seq > 1<<62 {
		return api.State{}, api.ErrRange
	}
	if _, why := journal.RevText(r); why != api.OK {
		return api.State{}, why
	}
	s = twin(s)
	if why := doneRight(&s, seq, r); why != api.OK {
		return api.State{}, why
	}
	s.Seq = seq
	return s, api.OK
}

func doneRight(s *api.State, seq uint64, r api.Rev) api.Errno {
	i := tableAt(*s, r.Table)
	if r.Kind == api.RevTable {
		if i >= 0 {
			return api.ErrTwice
		}
		if len(s.Tables) == 16 {
			return api.ErrFull
		}
		s.Tables = append(s.Tables, api.Table{Name: r.Table})
		return api.OK
	}
	if i < 0 {
		return api.ErrName
	}
	t := &s.Tables[i]
	if r.Kind == api.RevIndex {
		if r.Value.S == "" {
			return api.ErrLong
		}
		if slices.Contains(t.Indexes, r.Value.S) {
			return api.ErrTwice
		}
		if len(t.Indexes) == 8 {
			return api.ErrFull
		}
		t.Indexes = append(t.Indexes, r.Value.S)
		return api.OK
	}
	version := api.Version{Seq: seq, Gone: r.Kind == api.RevDrop, Value: r.Value}
	if r.Kind == api.RevPut && r.Version == 0 {
		if r.Doc != s.Last+1 {
			return api.ErrRange
		}
		if len(t.Docs) == 256 {
			return api.ErrFull
		}
		t.Docs = append(t.Docs, api.Doc{Id: r.Doc, Versions: []api.Version{version}})
		s.Last++
		return api.OK
	}
	for j := range t.Docs {
		d := &t.Docs[j]
		if d.Id != r.Doc {
			continue
		}
		if d.Versions[len(d.Versions)-1].Gone {
			return api.ErrState
		}
		if int(r.Version) != len(d.Versions) {
			return api.ErrRange
		}
		d.Versions = append(d.Versions, version)
		return api.OK
	}
	return api.ErrUnknown
}

// rowsOf are the versions of a table that are meant.
func rowsOf(s api.State, name string, meant func(d api.Doc, i int) bool) []api.Row {
	var out []api.Row
	for _, d := range s.Tables[tableAt(s, name)].Docs {
		for i, v := range d.Versions {
			if meant(d, i) {
				out = append(out, api.Row{Doc: d.Id, Version: uint64(i), Seq: v.Seq, Gone: v.Gone, Value: v.Value})
			}
		}
	}
	return out
}

func currentOf(s api.State, name string) []api.Row {
	return rowsOf(s, name, func(d api.Doc, i int) bool { return i+1 == len(d.Versions) && !d.Versions[i].Gone })
}

func historyOf(s api.State, name string, upto uint64) []api.Row {
	return rowsOf(s, name, func(d api.Doc, i int) bool { return d.Versions[i].Seq <= upto })
}

// lies tells whether a key lies within both bounds.
func lies(key api.Value, low, high api.Bound) bool {
	if low.Has && (value.Compare(key, low.Key) == -1 || low.Open && value.Compare(key, low.Key) == 0) {
		return false
	}
	if high.Has && (value.Compare(key, high.Key) == 1 || high.Open && value.Compare(key, high.Key) == 0) {
		return false
	}
	return true
}

// lookedUp are the Ids that Lookup finds.
func lookedUp(s api.State, name, field string, low, high api.Bound) []uint64 {
	type found struct {
		key api.Value
		id  uint64
	}
	var l []found
	for _, row := range currentOf(s, name) {
		for _, f := range row.Value.Fields {
			if f.Name == field && lies(f.Value, low, high) {
				l = append(l, found{f.Value, row.Doc})
			}
		}
	}
	slices.SortFunc(l, func(a, b found) int { return cmp.Or(value.Compare(a.key, b.key), cmp.Compare(a.id, b.id)) })
	return many(len(l), func(i int) uint64 { return l[i].id })
}

// sameState tells whether states are alike; empty lists are like none.
func sameState(a, b api.State) bool {
	sameVersion := func(a, b api.Version) bool {
		return a.Seq == b.Seq && a.Gone == b.Gone && value.Same(a.Value, b.Value)
	}
	sameDoc := func(a, b api.Doc) bool {
		return a.Id == b.Id && slices.EqualFunc(a.Versions, b.Versions, sameVersion)
	}
	return a.Seq == b.Seq && a.Last == b.Last && slices.EqualFunc(a.Tables, b.Tables, func(a, b api.Table) bool {
		return a.Name == b.Name && slices.Equal(a.Indexes, b.Indexes) && slices.EqualFunc(a.Docs, b.Docs, sameDoc)
	})
}

func sameRows(a, b []api.Row) bool {
	return slices.EqualFunc(a, b, func(a, b api.Row) bool {
		return a.Doc == b.Doc && a.Version == b.Version && a.Seq == b.Seq && a.Gone == b.Gone && value.Same(a.Value, b.Value)
	})
}

// anyKey is a value that a field may have.
func anyKey(r *rand.Rand) api.Value {
	return []api.Value{
		{}, {Kind: api.KindBool, B: true}, whole(-1), whole(0), whole(1), whole(2), text(""), text("a"), text("b"),
		list(whole(1)), list(whole(1), text("s")), doc("a", whole(1)), {Kind: api.KindBlob, S: "\xff"},
	}[r.Intn(13)]
}

// anyDoc is a right struct.
func anyDoc(r *rand.Rand) api.Value {
	v := doc()
	for _, name := range []string{"a", "b", "c"} {
		if r.Intn(4) > 0 {
			v.Fields = append(v.Fields, api.Field{Name: name, Value: twinValue(anyKey(r))})
		}
	}
	return v
}

// anyState is a right one, which may be none that blocks make.
func anyState(r *rand.Rand) api.State {
	s := api.State{Seq: uint64(r.Intn(9)), Tables: tables(r.Intn(5))}
	for i := range s.Tables {
		s.Tables[i].Indexes = names(r.Intn(3))
		if r.Intn(2) == 0 {
			s.Tables[i].Indexes = append(s.Tables[i].Indexes, "a", "b")
		}
	}
	for range r.Intn(12) {
		s.Last += uint64(1 + r.Intn(3))
		if len(s.Tables) == 0 || s.Seq == 0 {
			continue
		}
		d := api.Doc{Id: s.Last}
		seq := 1 + r.Intn(int(s.Seq))
		for range 1 + r.Intn(4) {
			d.Versions = append(d.Versions, api.Version{Seq: uint64(seq), Value: anyDoc(r)})
			seq += r.Intn(int(s.Seq) - seq + 1)
		}
		if r.Intn(3) == 0 {
			d.Versions = append(d.Versions, api.Version{Seq: uint64(seq), Gone: true})
		}
		i := r.Intn(len(s.Tables))
		s.Tables[i].Docs = append(s.Tables[i].Docs, d)
	}
	return s
}

// anyRev is one that may or may not be done behind a state.
func anyRev(r *rand.Rand, s api.State) api.Rev {
	name := fmt.Sprint("n", r.Intn(5))
	switch r.Intn(8) {
	case 0:
		return tableRev(name)
	case 1:
		return indexRev(name, []string{"a", "b", "c", "n0", ""}[r.Intn(5)])
	case 2, 3, 4:
		return putRev(name, s.Last+1, 0, anyDoc(r))
	}
	id, version := 1+uint64(r.Intn(int(s.Last)+1)), uint64(r.Intn(4))
	for _, t := range s.Tables {
		for _, d := range t.Docs {
			if d.Id == id && r.Intn(4) > 0 {
				name, version = t.Name, uint64(len(d.Versions))
			}
		}
	}
	if r.Intn(3) == 0 {
		return dropRev(name, id, version)
	}
	return putRev(name, id, version, anyDoc(r))
}

// show is what a failure tells of something that may be long.
func show(x any) string {
	s := fmt.Sprintf("%q", fmt.Sprint(x))
	return s[:min(len(s), 400)]
}

// lent is a text whose bytes can be changed behind its back.
func lent(s string) (string, func()) {
	b := []byte(s)
	return unsafe.String(&b[0], len(b)), func() {
		for i := range b {
			b[i] = '!'
		}
	}
}

// span is a piece of memory.
type span struct{ from, to uintptr }

// spans are the pieces of memory in which texts and lists of x lie.
func spans(x reflect.Value) []span {
	var out []span
	switch x.Kind() {
	case reflect.String:
		if x.Len() > 0 {
			from := uintptr(x.UnsafePointer())
			out = append(out, span{from, from + uintptr(x.Len())})
		}
	case reflect.Slice:
		if x.Cap() > 0 {
			from := x.Pointer()
			out = append(out, span{from, from + uintptr(x.Cap())*x.Type().Elem().Size()})
		}
		for i := range x.Len() {
			out = append(out, spans(x.Index(i))...)
		}
	case reflect.Struct:
		for i := range x.NumField() {
			out = append(out, spans(x.Field(i))...)
		}
	}
	return out
}

// apart fails, if an answer shares memory with itself or with one of the others.
func apart(t *testing.T, answer any, others ...any) {
	t.Helper()
	own := spans(reflect.ValueOf(answer))
	var all []span
	for _, o := range others {
		all = append(all, spans(reflect.ValueOf(o))...)
	}
	for i, a := range own {
		for _, b := range append(all[:len(all):len(all)], own[i+1:]...) {
			if a.from < b.to && b.from < a.to {
				t.Fatal("shared memory in", show(answer))
			}
		}
	}
}
