package proof_test

import (
	"cmp"
	"fmt"
	"reflect"
	"slices"
	"strings"
	"testing"
	"unsafe"

	"codicil/api"
	"codicil/journal"
	"codicil/ledger"
	"codicil/proof"
)

func xs(n int) string { return strings.Repeat("x", n) }

func number(n int64) api.Value { return api.Value{Kind: api.KindInt, N: n} }

func word(s string) api.Value { return api.Value{Kind: api.KindText, S: s} }

func blob(s string) api.Value { return api.Value{Kind: api.KindBlob, S: s} }

func all(l ...api.Value) api.Value { return api.Value{Kind: api.KindList, List: l} }

// doc is a struct; names and values take turns.
func doc(l ...any) api.Value {
	v := api.Value{Kind: api.KindStruct}
	for i := 0; i < len(l); i += 2 {
		v.Fields = append(v.Fields, api.Field{Name: l[i].(string), Value: l[i+1].(api.Value)})
	}
	return v
}

// many are n things, each made of its number.
func many[T any](n int, of func(i int) T) []T {
	var out []T
	for i := range n {
		out = append(out, of(i))
	}
	return out
}

func tableRev(table string) api.Rev { return api.Rev{Kind: api.RevTable, Table: table} }

func putRev(id, version uint64, v api.Value) api.Rev {
	return api.Rev{Kind: api.RevPut, Table: "t", Doc: id, Version: version, Value: v}
}

// nought is the digest ahead of all.
var nought = string(make([]byte, 32))

// story is a ledger of n blocks, of 1 to 7 revisions each, and of a session that is open.
func story(t *testing.T, n int) api.Ledger {
	t.Helper()
	l := ledger.New()
	for i := range n {
		texts := []string{"CREATE TABLE t", "CREATE INDEX ON t (a)"}
		if i > 0 {
			texts = many(1+i*3%7, func(j int) string { return fmt.Sprintf("INSERT INTO t {a: %d, word: 'words %d'}", i, j) })
		}
		if i%3 == 2 {
			texts = append(texts[:1], fmt.Sprintf("UPDATE t SET b = [a, {x: %d}] WHERE a = %d", i, i-1), fmt.Sprintf("DELETE FROM t WHERE a = %d", i))
		}
		l = committed(t, l, texts...)
	}
	l, _, why := ledger.Begin(l)
	if why != api.OK {
		t.Fatalf("Begin: error %d", why)
	}
	return l
}

// committed is a ledger with one block more, that of a session that did statements.
func committed(t *testing.T, l api.Ledger, texts ...string) api.Ledger {
	t.Helper()
	l, id, why := ledger.Begin(l)
	for _, text := range texts {
		if why == api.OK {
			l, _, why = ledger.Exec(l, id, text, api.MaxFuel)
		}
	}
	if why == api.OK {
		l, _, why = ledger.Commit(l, id)
	}
	if why != api.OK {
		t.Fatalf("%q: error %d", texts, why)
	}
	return l
}

// of is the ledger of blocks that are made of revisions.
func of(t *testing.T, revs ...[]api.Rev) api.Ledger {
	t.Helper()
	var blocks []api.Block
	prev := nought
	for i, l := range revs {
		b, why := journal.Make(uint64(i+1), prev, []string{fmt.Sprint("by hand ", i)}, l)
		if why != api.OK {
			t.Fatalf("Make: error %d", why)
		}
		head, _ := journal.Short(b)
		blocks, prev = append(blocks, b), journal.Digest(head)
	}
	s, prev, why := ledger.Fold(blocks)
	if why != api.OK {
		t.Fatalf("Fold: error %d", why)
	}
	return api.Ledger{Blocks: blocks, State: s, Prev: prev}
}

// long is a ledger of n blocks, of one revision each.
func long(t *testing.T, n int) api.Ledger {
	t.Helper()
	return of(t, many(n, func(i int) []api.Rev {
		if i == 0 {
			return []api.Rev{tableRev("t")}
		}
		return []api.Rev{putRev(1, uint64(i-1), doc("a", number(int64(i))))}
	})...)
}

// tip is a ledger's behind its first n blocks.
func tip(t *testing.T, l api.Ledger, n uint64) api.Tip {
	t.Helper()
	out, why := proof.Tip(l, n)
	if why != api.OK {
		t.Fatalf("Tip(%d): error %d", n, why)
	}
	return out
}

// tips are all of a ledger.
func tips(t *testing.T, l api.Ledger) []api.Tip {
	t.Helper()
	return many(len(l.Blocks)+1, func(n int) api.Tip { return tip(t, l, uint64(n)) })
}

// proved is what Prove tells.
type proved struct {
	Rev   api.Rev
	Proof api.Proof
	Why   api.Errno
}

func prove(l api.Ledger, seq uint64, index int, n uint64) proved {
	r, p, why := proof.Prove(l, seq, index, n)
	return proved{r, p, why}
}

// address is where a revision is, and how many blocks are looked at.
type address struct {
	seq   uint64
	index int
	n     uint64
}

// addresses are all of a ledger, under all tips.
func addresses(l api.Ledger) []address {
	var out []address
	for n := range l.Blocks {
		for _, b := range l.Blocks[:n+1] {
			for i := range b.Revs {
				out = append(out, address{b.Seq, i, uint64(n + 1)})
			}
		}
	}
	return out
}

// other is a text with another byte at a place.
func other(s string, i int) string {
	b := []byte(s)
	b[i] ^= 1
	return string(b)
}

// others are lists of digests that are unlike a list in one thing each: a byte, one less, one more, one that is too short or too long, two changed about.
func others(l []string) [][]string {
	out := [][]string{append(slices.Clone(l), nought), append([]string{nought}, l...), append(slices.Clone(l), "")}
	for i, s := range l {
		out = append(out, slices.Delete(slices.Clone(l), i, i+1))
		for _, x := range []string{other(s, 0), other(s, 31), nought, s[:31], s + "\x00", ""} {
			changed := slices.Clone(l)
			changed[i] = x
			out = append(out, changed)
		}
		if i > 0 {
			changed := slices.Clone(l)
			changed[i], changed[i-1] = changed[i-1], changed[i]
			out = append(out, changed)
		}
	}
	return out
}

// show is what a failure tells of something that may be long.
func show(x any) string {
	s := fmt.Sprintf("%q", fmt.Sprint(x))
	return s[:min(len(s), 600)]
}

// same tells whether two things are alike, nil and empty lists being so, too.
func same(a, b any) bool { return alike(reflect.ValueOf(a), reflect.ValueOf(b)) }

func alike(a, b reflect.Value) bool {
	switch a.Kind() {
	case reflect.Slice:
		if a.Len() != b.Len() {
			return false
		}
		for i := range a.Len() {
			if !alike(a.Index(i), b.Index(i)) {
				return false
			}
		}
		return true
	case reflect.Struct:
		for i := range a.NumField() {
			if !alike(a.Field(i), b.Field(i)) {
				return false
			}
		}
		return true
	}
	return a.Equal(b)
}

// twin is a copy that shares no lists and no texts.
func twin[T any](x T) T {
	copyTo(reflect.ValueOf(&x).Elem(), reflect.ValueOf(x))
	return x
}

func copyTo(to, from reflect.Value) {
	switch from.Kind() {
	case reflect.String:
		to.SetString(strings.Clone(from.String()))
	case reflect.Slice:
		if from.IsNil() {
			return
		}
		l := reflect.MakeSlice(from.Type(), from.Len(), from.Len())
		for i := range from.Len() {
			copyTo(l.Index(i), from.Index(i))
		}
		to.Set(l)
	case reflect.Struct:
		for i := range from.NumField() {
			copyTo(to.Field(i), from.Field(i))
		}
	default:
		to.Set(from)
	}
}

// lent is a copy all of whose texts and lists can be spoiled behind its back.
func lent[T any](x T) (T, func()) {
	x = twin(x)
	var spoil []func()
	lend(reflect.ValueOf(&x).Elem(), &spoil)
	return x, func() {
		for _, f := range spoil {
			f()
		}
	}
}

func lend(x reflect.Value, spoil *[]func()) {
	switch x.Kind() {
	case reflect.String:
		if x.Len() == 0 {
			return
		}
		b := []byte(x.String())
		x.SetString(unsafe.String(&b[0], len(b)))
		*spoil = append(*spoil, func() {
			for i := range b {
				b[i] = '!'
			}
		})
	case reflect.Slice:
		for i := range x.Len() {
			lend(x.Index(i), spoil)
		}
		l := x.Slice(0, x.Len())
		*spoil = append(*spoil, func() {
			for i := range l.Len() {
				l.Index(i).SetZero()
			}
		})
	case reflect.Struct:
		for i := range x.NumField() {
			lend(x.Field(i), spoil)
		}
	}
}

// span is a piece of memory; own: it is an answer's.
type span struct {
	from, to uintptr
	own      bool
}

// spans are the pieces of memory in which texts and lists of x lie.
func spans(x reflect.Value, own bool) []span {
	var out []span
	switch x.Kind() {
	case reflect.String:
		if x.Len() > 0 {
			from := uintptr(x.UnsafePointer())
			out = append(out, span{from, from + uintptr(x.Len()), own})
		}
	case reflect.Slice:
		if x.Cap() > 0 {
			from := x.Pointer()
			out = append(out, span{from, from + uintptr(x.Cap())*x.Type().Elem().Size(), own})
		}
		for i := range x.Len() {
			out = append(out, spans(x.Index(i), own)...)
		}
	case reflect.Struct:
		for i := range x.NumField() {
			out = append(out, spans(x.Field(i), own)...)
		}
	}
	return out
}

// apart fails, if an answer shares memory with itself or with one of the others.
func apart(t *testing.T, answer any, others ...any) {
	t.Helper()
	l := spans(reflect.ValueOf(answer), true)
	for _, o := range others {
		l = append(l, spans(reflect.ValueOf(o), false)...)
	}
	slices.SortFunc(l, func(a, b span) int { return cmp.Compare(a.from, b.from) })
	var end, ownEnd uintptr
	for _, s := range l {
		if s.from < ownEnd || s.own && s.from < end {
			t.Fatal("shared memory in", show(answer))
		}
		end = max(end, s.to)
		if s.own {
			ownEnd = max(ownEnd, s.to)
		}
	}
}
