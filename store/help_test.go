package store_test

import (
	"cmp"
	"crypto/sha256"
	"encoding/binary"
	"fmt"
	"reflect"
	"slices"
	"strings"
	"testing"
	"unsafe"

	"codicil/api"
	"codicil/journal"
	"codicil/ledger"
	"codicil/store"
)

func xs(n int) string { return strings.Repeat("x", n) }

func number(n int64) api.Value { return api.Value{Kind: api.KindInt, N: n} }

func word(s string) api.Value { return api.Value{Kind: api.KindText, S: s} }

// doc is a struct; names and values take turns.
func doc(l ...any) api.Value {
	v := api.Value{Kind: api.KindStruct}
	for i := 0; i < len(l); i += 2 {
		v.Fields = append(v.Fields, api.Field{Name: l[i].(string), Value: l[i+1].(api.Value)})
	}
	return v
}

// many are n things, each made of its number.
func many[T any](n int, of func(i int) T) []T {
	var out []T
	for i := range n {
		out = append(out, of(i))
	}
	return out
}

// name is the one of a number: n0, n1 and so on.
func name(i int) string { return fmt.Sprint("n", i) }

func tableRev(table string) api.Rev { return api.Rev{Kind: api.RevTable, Table: table} }

func putRev(table string, id, version uint64, v api.Value) api.Rev {
	return api.Rev{Kind: api.RevPut, Table: table, Doc: id, Version: version, Value: v}
}

// nought is the digest ahead of all.
var nought = string(make([]byte, 32))

// digest is a block's.
func digest(b api.Block) string {
	h, _ := journal.Short(b)
	return journal.Digest(h)
}

// block is a right one of revisions.
func block(t *testing.T, seq uint64, prev string, revs ...api.Rev) api.Block {
	t.Helper()
	b, why := journal.Make(seq, prev, []string{"by hand"}, revs)
	if why != api.OK {
		t.Fatalf("Make(%d, %s): error %d", seq, show(revs), why)
	}
	return b
}

// behind are blocks with more behind them, each of some revisions, their Seqs and Prevs being right.
func behind(t *testing.T, blocks []api.Block, revs ...[]api.Rev) []api.Block {
	t.Helper()
	out := slices.Clone(blocks)
	for _, l := range revs {
		prev := nought
		if len(out) > 0 {
			prev = digest(out[len(out)-1])
		}
		out = append(out, block(t, uint64(len(out)+1), prev, l...))
	}
	return out
}

// long are n blocks in a row: a table, a document, that document again and again.
func long(t *testing.T, n int) []api.Block {
	t.Helper()
	var out []api.Block
	for i := range n {
		r := putRev("t", 1, uint64(max(i, 1)-1), doc("a", number(int64(i))))
		if i == 0 {
			r = tableRev("t")
		}
		out = behind(t, out, []api.Rev{r})
	}
	return out
}

// frame is a block's, byte by byte.
func frame(b api.Block) string {
	text, _ := journal.Text(b)
	count := string(binary.LittleEndian.AppendUint32(nil, uint32(len(text))))
	sum := sha256.Sum256([]byte(count + text))
	return count + string(sum[:8]) + text
}

// framed are the frames of blocks.
func framed(blocks []api.Block) string {
	return strings.Join(many(len(blocks), func(i int) string { return frame(blocks[i]) }), "")
}

// on is a disk with bytes that are synced, and a good deal of room.
func on(data string) api.Disk {
	return api.Disk{Data: data, Synced: len(data), Cap: api.MaxDisk, Fuse: -1}
}

// fresh is the store of a disk without anything.
func fresh() api.Store {
	return api.Store{Disk: on(""), Ledger: api.Ledger{Prev: nought}}
}

// of is the store of blocks in a row.
func of(t *testing.T, blocks []api.Block) api.Store {
	t.Helper()
	s, prev, why := ledger.Fold(blocks)
	if why != api.OK {
		t.Fatalf("Fold(%s): error %d", show(blocks), why)
	}
	return api.Store{Disk: on(framed(blocks)), Ledger: api.Ledger{Blocks: blocks, State: s, Prev: prev}}
}

// call is one of the calls that change a store.
type call struct {
	what string
	id   int // of Crash: how many bytes are kept
	text string
	fuel int
}

func begin() call { return call{what: "Begin"} }

func exec(id int, text string, fuel int) call {
	return call{what: "Exec", id: id, text: text, fuel: fuel}
}

func commit(id int) call { return call{what: "Commit", id: id} }

func abort(id int) call { return call{what: "Abort", id: id} }

func crash(keep int) call { return call{what: "Crash", id: keep} }

// told is what a call tells.
type told struct {
	Store  api.Store
	Id     int
	Result api.Result
	Seq    uint64
	Why    api.Errno
}

// does is the call, done.
func (c call) does(s api.Store) told {
	var out told
	switch c.what {
	case "Begin":
		out.Store, out.Id, out.Why = store.Begin(s)
	case "Exec":
		out.Store, out.Result, out.Why = store.Exec(s, c.id, c.text, c.fuel)
	case "Commit":
		out.Store, out.Seq, out.Why = store.Commit(s, c.id)
	case "Abort":
		out.Store, out.Why = store.Abort(s, c.id)
	case "Crash":
		out.Store, out.Why = store.Crash(s, c.id)
	}
	return out
}

// asSaid fails, unless a call answers what the chapter says, and leaves what it was handed; it tells the answer.
func asSaid(t *testing.T, s api.Store, c call) told {
	t.Helper()
	ahead := twin(s)
	want := c.said(s)
	got := c.does(s)
	if !same(got, want) {
		t.Fatalf("%s of %s: %s, not %s", show(c), show(s), show(got), show(want))
	}
	if !same(s, ahead) {
		t.Fatalf("%s of %s changed its store: %s", show(c), show(ahead), show(s))
	}
	return got
}

// met fails, unless a call answers what the chapter says, and one error; it tells the answer.
func met(t *testing.T, s api.Store, c call, why api.Errno) told {
	t.Helper()
	got := asSaid(t, s, c)
	if got.Why != why {
		t.Fatalf("%s: error %d, not %d", show(c), got.Why, why)
	}
	return got
}

// isOpened fails, unless Open answers what the chapter says, and leaves what it was handed; it tells the answer.
func isOpened(t *testing.T, d api.Disk) told {
	t.Helper()
	ahead := twin(d)
	want := saidOpen(d)
	s, why := store.Open(d)
	if got := (told{Store: s, Why: why}); !same(got, want) {
		t.Fatalf("Open(%s): %s, not %s", show(d), show(got), show(want))
	}
	if d != ahead {
		t.Fatalf("Open changed %s", show(d))
	}
	return want
}

// opened is a store with one session more, that did statements, whatever they came to, and its Id.
func opened(t *testing.T, s api.Store, texts ...string) (api.Store, int) {
	t.Helper()
	got := met(t, s, begin(), api.OK)
	return did(t, got.Store, got.Id, texts...), got.Id
}

// did is a store in which a session did statements, whatever they came to.
func did(t *testing.T, s api.Store, id int, texts ...string) api.Store {
	t.Helper()
	for _, text := range texts {
		s = asSaid(t, s, exec(id, text, api.MaxFuel)).Store
	}
	return s
}

// with is a store with one block more, that of a session that did statements.
func with(t *testing.T, s api.Store, texts ...string) api.Store {
	t.Helper()
	s, id := opened(t, s, texts...)
	return met(t, s, commit(id), api.OK).Store
}

// small is a store of three blocks: the table t has indexes a and b, u has one on a, w has none and no documents.
func small(t *testing.T) api.Store {
	t.Helper()
	s := with(t, fresh(), "CREATE TABLE t", "CREATE TABLE u", "CREATE TABLE w", "CREATE INDEX ON t (a)", "CREATE INDEX ON t (b)", "CREATE INDEX ON u (a)")
	s = with(t, s, "INSERT INTO t {a: 1, b: 1}", "INSERT INTO t {a: 2, b: [1, 'x']}", "INSERT INTO t {a: 3}", "INSERT INTO u {a: 1}")
	return with(t, s, "UPDATE t SET a = 4 WHERE a = 3", "DELETE FROM t WHERE a = 2")
}

// busy is small with sessions 4 to 8: one that did nothing, one that wrote, one that read and wrote, one that is Dead, one that only read.
func busy(t *testing.T) api.Store {
	t.Helper()
	s, _ := opened(t, small(t))
	s, _ = opened(t, s, "SELECT * FROM t WHERE a = 1", "INSERT INTO u {word: 'words'}")
	s, _ = opened(t, s, "UPDATE t SET b = 7 WHERE a = 4", "CREATE TABLE words")
	s, dead := opened(t, s, "CREATE TABLE words")
	s = met(t, s, exec(dead, "SELECT * FROM t", 0), api.ErrFuel).Store
	s, _ = opened(t, s, "SELECT * FROM t")
	return s
}

// downed is a store whose disk the power has left at a commit, the frame of its block standing there.
func downed(t *testing.T) api.Store {
	t.Helper()
	s := busy(t)
	s.Disk.Fuse = 1
	return met(t, s, commit(5), api.ErrDown).Store
}

// without is a store without a session, all else as it was.
func without(s api.Store, id int) api.Store {
	s = twin(s)
	s.Ledger.Sessions = slices.DeleteFunc(s.Ledger.Sessions, func(x api.Session) bool { return x.Id == id })
	return s
}

// show is what a failure tells of something that may be long.
func show(x any) string {
	s := fmt.Sprintf("%q", fmt.Sprint(x))
	return s[:min(len(s), 600)]
}

// same tells whether two things are alike, nil and empty lists being so, too.
func same(a, b any) bool { return alike(reflect.ValueOf(a), reflect.ValueOf(b)) }

func alike(a, b reflect.Value) bool {
	switch a.Kind() {
	case reflect.Slice:
		if a.Len() != b.Len() {
			return false
		}
		for i := range a.Len() {
			if !alike(a.Index(i), b.Index(i)) {
				return false
			}
		}
		return true
	case reflect.Struct:
		for i := range a.NumField() {
			if !alike(a.Field(i), b.Field(i)) {
				return false
			}
		}
		return true
	}
	return a.Equal(b)
}

// twin is a copy that shares no lists and no texts.
func twin[T any](x T) T {
	copyTo(reflect.ValueOf(&x).Elem(), reflect.ValueOf(x))
	return x
}

func copyTo(to, from reflect.Value) {
	switch from.Kind() {
	case reflect.String:
		to.SetString(strings.Clone(from.String()))
	case reflect.Slice:
		if from.IsNil() {
			return
		}
		l := reflect.MakeSlice(from.Type(), from.Len(), from.Len())
		for i := range from.Len() {
			copyTo(l.Index(i), from.Index(i))
		}
		to.Set(l)
	case reflect.Struct:
		for i := range from.NumField() {
			copyTo(to.Field(i), from.Field(i))
		}
	default:
		to.Set(from)
	}
}

// lent is a copy all of whose texts and lists can be spoiled behind its back.
func lent[T any](x T) (T, func()) {
	x = twin(x)
	var spoil []func()
	lend(reflect.ValueOf(&x).Elem(), &spoil)
	return x, func() {
		for _, f := range spoil {
			f()
		}
	}
}

func lend(x reflect.Value, spoil *[]func()) {
	switch x.Kind() {
	case reflect.String:
		if x.Len() == 0 {
			return
		}
		b := []byte(x.String())
		x.SetString(unsafe.String(&b[0], len(b)))
		*spoil = append(*spoil, func() {
			for i := range b {
				b[i] = '!'
			}
		})
	case reflect.Slice:
		for i := range x.Len() {
			lend(x.Index(i), spoil)
		}
		l := x.Slice(0, x.Len())
		*spoil = append(*spoil, func() {
			for i := range l.Len() {
				l.Index(i).SetZero()
			}
		})
	case reflect.Struct:
		for i := range x.NumField() {
			lend(x.Field(i), spoil)
		}
	}
}

// span is a piece of memory; own: it is an answer's.
type span struct {
	from, to uintptr
	own      bool
}

// spans are the pieces of memory in which texts and lists of x lie.
func spans(x reflect.Value, own bool) []span {
	var out []span
	switch x.Kind() {
	case reflect.String:
		if x.Len() > 0 {
			from := uintptr(x.UnsafePointer())
			out = append(out, span{from, from + uintptr(x.Len()), own})
		}
	case reflect.Slice:
		if x.Cap() > 0 {
			from := x.Pointer()
			out = append(out, span{from, from + uintptr(x.Cap())*x.Type().Elem().Size(), own})
		}
		for i := range x.Len() {
			out = append(out, spans(x.Index(i), own)...)
		}
	case reflect.Struct:
		for i := range x.NumField() {
			out = append(out, spans(x.Field(i), own)...)
		}
	}
	return out
}

// apart fails, if an answer shares memory with itself or with one of the others.
func apart(t *testing.T, answer any, others ...any) {
	t.Helper()
	l := spans(reflect.ValueOf(answer), true)
	for _, o := range others {
		l = append(l, spans(reflect.ValueOf(o), false)...)
	}
	slices.SortFunc(l, func(a, b span) int { return cmp.Compare(a.from, b.from) })
	var end, ownEnd uintptr
	for _, s := range l {
		if s.from < ownEnd || s.own && s.from < end {
			t.Fatal("shared memory in", show(answer))
		}
		end = max(end, s.to)
		if s.own {
			ownEnd = max(ownEnd, s.to)
		}
	}
}
