package ledger_test

import (
	"cmp"
	"fmt"
	"reflect"
	"slices"
	"strings"
	"testing"
	"unsafe"

	"codicil/api"
	"codicil/journal"
	"codicil/ledger"
)

func xs(n int) string { return strings.Repeat("x", n) }

func null() api.Value { return api.Value{} }

func number(n int64) api.Value { return api.Value{Kind: api.KindInt, N: n} }

func word(s string) api.Value { return api.Value{Kind: api.KindText, S: s} }

func blob(s string) api.Value { return api.Value{Kind: api.KindBlob, S: s} }

func all(l ...api.Value) api.Value { return api.Value{Kind: api.KindList, List: l} }

// doc is a struct; names and values take turns.
func doc(l ...any) api.Value {
	v := api.Value{Kind: api.KindStruct}
	for i := 0; i < len(l); i += 2 {
		v.Fields = append(v.Fields, api.Field{Name: l[i].(string), Value: l[i+1].(api.Value)})
	}
	return v
}

// many are n things, each made of its number.
func many[T any](n int, of func(i int) T) []T {
	var out []T
	for i := range n {
		out = append(out, of(i))
	}
	return out
}

// name is the one of a number: n0, n1 and so on.
func name(i int) string { return fmt.Sprint("n", i) }

func tableRev(table string) api.Rev { return api.Rev{Kind: api.RevTable, Table: table} }

func indexRev(table, field string) api.Rev {
	return api.Rev{Kind: api.RevIndex, Table: table, Value: word(field)}
}

func putRev(table string, id, version uint64, v api.Value) api.Rev {
	return api.Rev{Kind: api.RevPut, Table: table, Doc: id, Version: version, Value: v}
}

func dropRev(table string, id, version uint64) api.Rev {
	return api.Rev{Kind: api.RevDrop, Table: table, Doc: id, Version: version}
}

// nought is the digest ahead of all.
var nought = string(make([]byte, 32))

// block is a right one of revisions.
func block(t *testing.T, seq uint64, prev string, revs ...api.Rev) api.Block {
	t.Helper()
	b, why := journal.Make(seq, prev, []string{"by hand"}, revs)
	if why != api.OK {
		t.Fatalf("Make(%d, %s): error %d", seq, show(revs), why)
	}
	return b
}

// behind are blocks with more behind them, each of some revisions, their Seqs and Prevs being right.
func behind(t *testing.T, blocks []api.Block, revs ...[]api.Rev) []api.Block {
	t.Helper()
	out := slices.Clone(blocks)
	for _, l := range revs {
		prev := nought
		if len(out) > 0 {
			prev = digest(out[len(out)-1])
		}
		out = append(out, block(t, uint64(len(out)+1), prev, l...))
	}
	return out
}

// of is the ledger of blocks in a row, without sessions.
func of(t *testing.T, blocks []api.Block) api.Ledger {
	t.Helper()
	s, prev, why := ledger.Fold(blocks)
	if why != api.OK {
		t.Fatalf("Fold(%s): error %d", show(blocks), why)
	}
	return api.Ledger{Blocks: blocks, State: s, Prev: prev}
}

// long are n blocks in a row: a table, a document, that document again and again.
func long(t *testing.T, n int) []api.Block {
	t.Helper()
	var out []api.Block
	for i := range n {
		r := putRev("t", 1, uint64(max(i, 1)-1), doc("a", number(int64(i))))
		if i == 0 {
			r = tableRev("t")
		}
		out = behind(t, out, []api.Rev{r})
	}
	return out
}

// call is one of the calls that change a ledger.
type call struct {
	what string
	id   int
	text string
	fuel int
}

func begin() call { return call{what: "Begin"} }

func exec(id int, text string, fuel int) call {
	return call{what: "Exec", id: id, text: text, fuel: fuel}
}

func commit(id int) call { return call{what: "Commit", id: id} }

func abort(id int) call { return call{what: "Abort", id: id} }

// told is what a call tells.
type told struct {
	Ledger api.Ledger
	Id     int
	Result api.Result
	Seq    uint64
	Why    api.Errno
}

// does is the call, done.
func (c call) does(l api.Ledger) told {
	var out told
	switch c.what {
	case "Begin":
		out.Ledger, out.Id, out.Why = ledger.Begin(l)
	case "Exec":
		out.Ledger, out.Result, out.Why = ledger.Exec(l, c.id, c.text, c.fuel)
	case "Commit":
		out.Ledger, out.Seq, out.Why = ledger.Commit(l, c.id)
	case "Abort":
		out.Ledger, out.Why = ledger.Abort(l, c.id)
	}
	return out
}

// asSaid fails, unless a call answers what the chapter says, and leaves what it was handed; it tells the answer.
func asSaid(t *testing.T, l api.Ledger, c call) told {
	t.Helper()
	ahead := twin(l)
	want := c.said(l)
	got := c.does(l)
	if !same(got, want) {
		t.Fatalf("%s of %s: %s, not %s", show(c), show(l), show(got), show(want))
	}
	if !same(l, ahead) {
		t.Fatalf("%s of %s changed its ledger: %s", show(c), show(ahead), show(l))
	}
	return got
}

// met fails, unless a call answers what the chapter says, and one error; it tells the answer.
func met(t *testing.T, l api.Ledger, c call, why api.Errno) told {
	t.Helper()
	got := asSaid(t, l, c)
	if got.Why != why {
		t.Fatalf("%s: error %d, not %d", show(c), got.Why, why)
	}
	return got
}

// opened is a ledger with one session more, that did statements, whatever they came to, and its Id.
func opened(t *testing.T, l api.Ledger, texts ...string) (api.Ledger, int) {
	t.Helper()
	got := met(t, l, begin(), api.OK)
	return did(t, got.Ledger, got.Id, texts...), got.Id
}

// did is a ledger in which a session did statements, whatever they came to.
func did(t *testing.T, l api.Ledger, id int, texts ...string) api.Ledger {
	t.Helper()
	for _, text := range texts {
		l = asSaid(t, l, exec(id, text, api.MaxFuel)).Ledger
	}
	return l
}

// with is a ledger with one block more, that of a session that did statements.
func with(t *testing.T, l api.Ledger, texts ...string) api.Ledger {
	t.Helper()
	l, id := opened(t, l, texts...)
	return met(t, l, commit(id), api.OK).Ledger
}

// small is a ledger of three blocks: the table t has indexes a and b, u has one on a, w has none and no documents.
func small(t *testing.T) api.Ledger {
	t.Helper()
	l := ledger.New()
	l = with(t, l, "CREATE TABLE t", "CREATE TABLE u", "CREATE TABLE w", "CREATE INDEX ON t (a)", "CREATE INDEX ON t (b)", "CREATE INDEX ON u (a)")
	l = with(t, l, "INSERT INTO t {a: 1, b: 1}", "INSERT INTO t {a: 2, b: [1, 'x']}", "INSERT INTO t {a: 3}", "INSERT INTO u {a: 1}")
	return with(t, l, "UPDATE t SET a = 4 WHERE a = 3", "DELETE FROM t WHERE a = 2")
}

// busy is small with sessions 4 to 7: one that began ahead of all blocks, one that began behind the first two, and two behind all, one of them Dead.
func busy(t *testing.T) api.Ledger {
	t.Helper()
	l := small(t)
	at := func(id, seq int, texts ...string) {
		x := of(t, l.Blocks[:seq])
		x.Last = id - 1
		x, _ = opened(t, x, texts...)
		l.Sessions, l.Last = append(l.Sessions, x.Sessions[0]), id
	}
	at(4, 0)
	at(5, 2, "SELECT * FROM t WHERE a = 1", "INSERT INTO u {word: 'words'}")
	at(6, 3, "UPDATE t SET b = 7 WHERE a = 4", "CREATE TABLE words")
	at(7, 3, "CREATE TABLE words")
	l = met(t, l, exec(7, "SELECT * FROM t", 0), api.ErrFuel).Ledger
	return l
}

// place is where a session is.
func place(l api.Ledger, id int) int {
	return slices.IndexFunc(l.Sessions, func(x api.Session) bool { return x.Id == id })
}

// without is a ledger without a session, all else as it was.
func without(l api.Ledger, id int) api.Ledger {
	l = twin(l)
	i := place(l, id)
	l.Sessions = slices.Delete(l.Sessions, i, i+1)
	return l
}

// show is what a failure tells of something that may be long.
func show(x any) string {
	s := fmt.Sprintf("%q", fmt.Sprint(x))
	return s[:min(len(s), 600)]
}

// same tells whether two things are alike, nil and empty lists being so, too.
func same(a, b any) bool { return alike(reflect.ValueOf(a), reflect.ValueOf(b)) }

func alike(a, b reflect.Value) bool {
	switch a.Kind() {
	case reflect.Slice:
		if a.Len() != b.Len() {
			return false
		}
		for i := range a.Len() {
			if !alike(a.Index(i), b.Index(i)) {
				return false
			}
		}
		return true
	case reflect.Struct:
		for i := range a.NumField() {
			if !alike(a.Field(i), b.Field(i)) {
				return false
			}
		}
		return true
	}
	return a.Equal(b)
}

// twin is a copy that shares no lists and no texts.
func twin[T any](x T) T {
	copyTo(reflect.ValueOf(&x).Elem(), reflect.ValueOf(x))
	return x
}

func copyTo(to, from reflect.Value) {
	switch from.Kind() {
	case reflect.String:
		to.SetString(strings.Clone(from.String()))
	case reflect.Slice:
		if from.IsNil() {
			return
		}
		l := reflect.MakeSlice(from.Type(), from.Len(), from.Len())
		for i := range from.Len() {
			copyTo(l.Index(i), from.Index(i))
		}
		to.Set(l)
	case reflect.Struct:
		for i := range from.NumField() {
			copyTo(to.Field(i), from.Field(i))
		}
	default:
		to.Set(from)
	}
}

// lent is a copy all of whose texts and lists can be spoiled behind its back.
func lent[T any](x T) (T, func()) {
	x = twin(x)
	var spoil []func()
	lend(reflect.ValueOf(&x).Elem(), &spoil)
	return x, func() {
		for _, f := range spoil {
			f()
		}
	}
}

func lend(x reflect.Value, spoil *[]func()) {
	switch x.Kind() {
	case reflect.String:
		if x.Len() == 0 {
			return
		}
		b := []byte(x.String())
		x.SetString(unsafe.String(&b[0], len(b)))
		*spoil = append(*spoil, func() {
			for i := range b {
				b[i] = '!'
			}
		})
	case reflect.Slice:
		for i := range x.Len() {
			lend(x.Index(i), spoil)
		}
		l := x.Slice(0, x.Len())
		*spoil = append(*spoil, func() {
			for i := range l.Len() {
				l.Index(i).SetZero()
			}
		})
	case reflect.Struct:
		for i := range x.NumField() {
			lend(x.Field(i), spoil)
		}
	}
}

// span is a piece of memory; own: it is an answer's.
type span struct {
	from, to uintptr
	own      bool
}

// spans are the pieces of memory in which texts and lists of x lie.
func spans(x reflect.Value, own bool) []span {
	var out []span
	switch x.Kind() {
	case reflect.String:
		if x.Len() > 0 {
			from := uintptr(x.UnsafePointer())
			out = append(out, span{from, from + uintptr(x.Len()), own})
		}
	case reflect.Slice:
		if x.Cap() > 0 {
			from := x.Pointer()
			out = append(out, span{from, from + uintptr(x.Cap())*x.Type().Elem().Size(), own})
		}
		for i := range x.Len() {
			out = append(out, spans(x.Index(i), own)...)
		}
	case reflect.Struct:
		for i := range x.NumField() {
			out = append(out, spans(x.Field(i), own)...)
		}
	}
	return out
}

// apart fails, if an answer shares memory with itself or with one of the others.
func apart(t *testing.T, answer any, others ...any) {
	t.Helper()
	l := spans(reflect.ValueOf(answer), true)
	for _, o := range others {
		l = append(l, spans(reflect.ValueOf(o), false)...)
	}
	slices.SortFunc(l, func(a, b span) int { return cmp.Compare(a.from, b.from) })
	var end, ownEnd uintptr
	for _, s := range l {
		if s.from < ownEnd || s.own && s.from < end {
			t.Fatal("shared memory in", show(answer))
		}
		end = max(end, s.to)
		if s.own {
			ownEnd = max(ownEnd, s.to)
		}
	}
}
