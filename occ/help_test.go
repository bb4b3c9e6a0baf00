package occ_test

import (
	"cmp"
	"fmt"
	"reflect"
	"slices"
	"strings"
	"testing"
	"unsafe"

	"codicil/api"
	"codicil/journal"
	"codicil/occ"
)

func xs(n int) string { return strings.Repeat("x", n) }

func null() api.Value { return api.Value{} }

func flag(b bool) api.Value { return api.Value{Kind: api.KindBool, B: b} }

func number(n int64) api.Value { return api.Value{Kind: api.KindInt, N: n} }

func word(s string) api.Value { return api.Value{Kind: api.KindText, S: s} }

func all(l ...api.Value) api.Value { return api.Value{Kind: api.KindList, List: l} }

// doc is a struct; names and values take turns.
func doc(l ...any) api.Value {
	v := api.Value{Kind: api.KindStruct}
	for i := 0; i < len(l); i += 2 {
		v.Fields = append(v.Fields, api.Field{Name: l[i].(string), Value: l[i+1].(api.Value)})
	}
	return v
}

// nested is v with so many lists around it.
func nested(lists int, v api.Value) api.Value {
	for range lists {
		v = all(v)
	}
	return v
}

// many are n things, each made of its number.
func many[T any](n int, of func(i int) T) []T {
	var out []T
	for i := range n {
		out = append(out, of(i))
	}
	return out
}

// name is the one of a number: n0, n1 and so on.
func name(i int) string { return fmt.Sprint("n", i) }

func tableRev(table string) api.Rev { return api.Rev{Kind: api.RevTable, Table: table} }

func indexRev(table, field string) api.Rev {
	return api.Rev{Kind: api.RevIndex, Table: table, Value: word(field)}
}

func putRev(table string, id, version uint64, v api.Value) api.Rev {
	return api.Rev{Kind: api.RevPut, Table: table, Doc: id, Version: version, Value: v}
}

func dropRev(table string, id, version uint64) api.Rev {
	return api.Rev{Kind: api.RevDrop, Table: table, Doc: id, Version: version}
}

// versions are a document's, one a block from a number on; null is a version that is gone.
func versions(seq uint64, l ...api.Value) []api.Version {
	var out []api.Version
	for i, v := range l {
		out = append(out, api.Version{Seq: seq + uint64(i), Gone: v.Kind == api.KindNull, Value: v})
	}
	return out
}

// nought is the digest ahead of all.
var nought = string(make([]byte, 32))

// line is what was committed, block by block, and what that made.
type line struct {
	state  api.State
	blocks []api.Block
}

// prev is the last block's digest.
func (l line) prev(t *testing.T) string {
	t.Helper()
	if len(l.blocks) == 0 {
		return nought
	}
	h, why := journal.Short(l.blocks[len(l.blocks)-1])
	if why != api.OK {
		t.Fatalf("Short: error %d", why)
	}
	return journal.Digest(h)
}

// since are the blocks behind a session's Base.
func (l line) since(x api.Session) []api.Block { return l.blocks[x.View.Base.Seq:] }

// opened is a session that began now, and did statements, whatever they came to.
func (l line) opened(t *testing.T, texts ...string) api.Session {
	t.Helper()
	x, why := occ.Begin(1, l.state)
	if why != api.OK {
		t.Fatalf("Begin(%s): error %d", show(l.state), why)
	}
	return did(t, x, texts...)
}

// did is a session behind statements, whatever they came to.
func did(t *testing.T, x api.Session, texts ...string) api.Session {
	t.Helper()
	for _, text := range texts {
		x = execAsSaid(t, x, text, api.MaxFuel).Session
	}
	return x
}

// with is the line with one block more, that of a session that did statements.
func (l line) with(t *testing.T, texts ...string) line {
	t.Helper()
	return l.committed(t, l.opened(t, texts...))
}

// committed is the line with one block more, that of a session.
func (l line) committed(t *testing.T, x api.Session) line {
	t.Helper()
	b, s, why := occ.Commit(x, l.state, l.since(x), l.prev(t))
	if why != api.OK {
		t.Fatalf("Commit(%s): error %d", show(x.Statements), why)
	}
	return line{state: s, blocks: append(slices.Clip(l.blocks), b)}
}

// small is a line of three blocks: the table t has indexes a and b, u has one on a, w has none and no documents.
func small(t *testing.T) line {
	t.Helper()
	return line{}.
		with(t, "CREATE TABLE t", "CREATE TABLE u", "CREATE TABLE w", "CREATE INDEX ON t (a)", "CREATE INDEX ON t (b)", "CREATE INDEX ON u (a)").
		with(t, "INSERT INTO t {a: 1, b: 1}", "INSERT INTO t {a: 2, b: 1}", "INSERT INTO t {a: 3}", "INSERT INTO u {a: 1}", "INSERT INTO t {b: 5}", "INSERT INTO t {a: 9, b: 9}").
		with(t, "UPDATE t SET a = 4 WHERE a = 3", "DELETE FROM t WHERE a = 9")
}

// told is what Exec tells.
type told struct {
	Session api.Session
	Result  api.Result
	Why     api.Errno
}

func exec(x api.Session, text string, fuel int) told {
	y, r, why := occ.Exec(x, text, fuel)
	return told{y, r, why}
}

// execAsSaid fails, unless Exec answers what the chapter says, and leaves what it was handed; it tells the answer.
func execAsSaid(t *testing.T, x api.Session, text string, fuel int) told {
	t.Helper()
	ahead := twin(x)
	want := saidExec(x, text, fuel)
	got := exec(x, text, fuel)
	if !same(got, want) {
		t.Fatalf("Exec(%s, %s, %d): %s, not %s", show(x), show(text), fuel, show(got), show(want))
	}
	if !same(x, ahead) {
		t.Fatalf("Exec(%s, %s, %d) changed its session: %s", show(ahead), show(text), fuel, show(x))
	}
	return got
}

// disturbedAsSaid fails, unless Disturbed answers what the chapter says, and leaves what it was handed; it tells the answer.
func disturbedAsSaid(t *testing.T, x api.Session, s api.State, blocks []api.Block) (bool, api.Errno) {
	t.Helper()
	y, r, l := twin(x), twin(s), twin(blocks)
	want, no := saidDisturbed(x, s, blocks)
	is, why := occ.Disturbed(x, s, blocks)
	if is != want || why != no {
		t.Fatalf("Disturbed(%s, %s, %s): %v, error %d, not %v, error %d", show(x), show(s), show(blocks), is, why, want, no)
	}
	if !same(x, y) || !same(s, r) || !same(blocks, l) {
		t.Fatalf("Disturbed changed what it was handed: %s, %s, %s", show(x), show(s), show(blocks))
	}
	return is, why
}

// made is what Commit tells.
type made struct {
	Block api.Block
	State api.State
	Why   api.Errno
}

func commit(x api.Session, s api.State, blocks []api.Block, prev string) made {
	b, next, why := occ.Commit(x, s, blocks, prev)
	return made{b, next, why}
}

// commitAsSaid fails, unless Commit answers what the chapter says, and leaves what it was handed; it tells the answer.
func commitAsSaid(t *testing.T, x api.Session, s api.State, blocks []api.Block, prev string) made {
	t.Helper()
	y, r, l := twin(x), twin(s), twin(blocks)
	want := saidCommit(x, s, blocks, prev)
	got := commit(x, s, blocks, prev)
	if !same(got, want) {
		t.Fatalf("Commit(%s, %s, %s): %s, not %s", show(x), show(s), show(blocks), show(got), show(want))
	}
	if !same(x, y) || !same(s, r) || !same(blocks, l) {
		t.Fatalf("Commit changed what it was handed: %s, %s, %s", show(x), show(s), show(blocks))
	}
	return got
}

// block is a right one of revisions.
func block(t *testing.T, seq uint64, revs ...api.Rev) api.Block {
	t.Helper()
	b, why := journal.Make(seq, nought, nil, revs)
	if why != api.OK {
		t.Fatalf("Make(%d, %s): error %d", seq, show(revs), why)
	}
	return b
}

// show is what a failure tells of something that may be long.
func show(x any) string {
	s := fmt.Sprintf("%q", fmt.Sprint(x))
	return s[:min(len(s), 600)]
}

// same tells whether two things are alike, nil and empty lists being so, too.
func same(a, b any) bool { return alike(reflect.ValueOf(a), reflect.ValueOf(b)) }

func alike(a, b reflect.Value) bool {
	switch a.Kind() {
	case reflect.Slice:
		if a.Len() != b.Len() {
			return false
		}
		for i := range a.Len() {
			if !alike(a.Index(i), b.Index(i)) {
				return false
			}
		}
		return true
	case reflect.Struct:
		for i := range a.NumField() {
			if !alike(a.Field(i), b.Field(i)) {
				return false
			}
		}
		return true
	}
	return a.Equal(b)
}

// twin is a copy that shares no lists and no texts.
func twin[T any](x T) T {
	copyTo(reflect.ValueOf(&x).Elem(), reflect.ValueOf(x))
	return x
}

func copyTo(to, from reflect.Value) {
	switch from.Kind() {
	case reflect.String:
		to.SetString(strings.Clone(from.String()))
	case reflect.Slice:
		if from.IsNil() {
			return
		}
		l := reflect.MakeSlice(from.Type(), from.Len(), from.Len())
		for i := range from.Len() {
			copyTo(l.Index(i), from.Index(i))
		}
		to.Set(l)
	case reflect.Struct:
		for i := range from.NumField() {
			copyTo(to.Field(i), from.Field(i))
		}
	default:
		to.Set(from)
	}
}

// lent is a text whose bytes can be changed behind its back.
func lent(s string) (string, func()) {
	b := []byte(s)
	return unsafe.String(&b[0], len(b)), func() {
		for i := range b {
			b[i] = '!'
		}
	}
}

// span is a piece of memory; own: it is an answer's.
type span struct {
	from, to uintptr
	own      bool
}

// spans are the pieces of memory in which texts and lists of x lie.
func spans(x reflect.Value, own bool) []span {
	var out []span
	switch x.Kind() {
	case reflect.String:
		if x.Len() > 0 {
			from := uintptr(x.UnsafePointer())
			out = append(out, span{from, from + uintptr(x.Len()), own})
		}
	case reflect.Slice:
		if x.Cap() > 0 {
			from := x.Pointer()
			out = append(out, span{from, from + uintptr(x.Cap())*x.Type().Elem().Size(), own})
		}
		for i := range x.Len() {
			out = append(out, spans(x.Index(i), own)...)
		}
	case reflect.Struct:
		for i := range x.NumField() {
			out = append(out, spans(x.Field(i), own)...)
		}
	}
	return out
}

// apart fails, if an answer shares memory with itself or with one of the others.
func apart(t *testing.T, answer any, others ...any) {
	t.Helper()
	l := spans(reflect.ValueOf(answer), true)
	for _, o := range others {
		l = append(l, spans(reflect.ValueOf(o), false)...)
	}
	slices.SortFunc(l, func(a, b span) int { return cmp.Compare(a.from, b.from) })
	var end, ownEnd uintptr
	for _, s := range l {
		if s.from < ownEnd || s.own && s.from < end {
			t.Fatal("shared memory in", show(answer))
		}
		end = max(end, s.to)
		if s.own {
			ownEnd = max(ownEnd, s.to)
		}
	}
}
