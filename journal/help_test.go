package journal_test

import (
	"crypto/sha256"
	"encoding/binary"
	"fmt"
	"math/rand"
	"reflect"
	"slices"
	"strings"
	"testing"

	"codicil/api"
	"codicil/journal"
	"codicil/value"
)

func whole(n int64) api.Value { return api.Value{Kind: api.KindInt, N: n} }

func text(s string) api.Value { return api.Value{Kind: api.KindText, S: s} }

func blob(s string) api.Value { return api.Value{Kind: api.KindBlob, S: s} }

func list(l ...api.Value) api.Value { return api.Value{Kind: api.KindList, List: l} }

// doc is a struct; names and values take turns.
func doc(l ...any) api.Value {
	v := api.Value{Kind: api.KindStruct}
	for i := 0; i < len(l); i += 2 {
		v.Fields = append(v.Fields, api.Field{Name: l[i].(string), Value: l[i+1].(api.Value)})
	}
	return v
}

// within is v with so many structs around it.
func within(structs int, v api.Value) api.Value {
	for range structs {
		v = doc("a", v)
	}
	return v
}

func xs(n int) string { return strings.Repeat("x", n) }

// times is a list that has x n times.
func times[T any](n int, x T) []T {
	var l []T
	for range n {
		l = append(l, x)
	}
	return l
}

func table(name string) api.Rev { return api.Rev{Kind: api.RevTable, Table: name} }

func index(name, field string) api.Rev {
	return api.Rev{Kind: api.RevIndex, Table: name, Value: text(field)}
}

func put(name string, id, version uint64, v api.Value) api.Rev {
	return api.Rev{Kind: api.RevPut, Table: name, Doc: id, Version: version, Value: v}
}

func drop(name string, id, version uint64) api.Rev {
	return api.Rev{Kind: api.RevDrop, Table: name, Doc: id, Version: version}
}

// first is the digest ahead of all.
var first = strings.Repeat("\x00", 32)

// What follows are the chapters' words to the letter, with the library's digests.

func sum(s string) string {
	d := sha256.Sum256([]byte(s))
	return string(d[:])
}

func counted(n int) string { return string(binary.AppendUvarint(nil, uint64(n))) }

// bytesOf is a value's text, right or not.
func bytesOf(v api.Value) string {
	switch v.Kind {
	case api.KindNull:
		return "\x00"
	case api.KindBool:
		return map[bool]string{false: "\x01", true: "\x02"}[v.B]
	case api.KindInt:
		return "\x03" + string(binary.AppendVarint(nil, v.N))
	case api.KindText:
		return "\x04" + counted(len(v.S)) + v.S
	case api.KindBlob:
		return "\x05" + counted(len(v.S)) + v.S
	case api.KindList:
		s := "\x06" + counted(len(v.List))
		for _, part := range v.List {
			s += bytesOf(part)
		}
		return s
	case api.KindStruct:
		s := "\x07" + counted(len(v.Fields))
		for _, f := range v.Fields {
			s += counted(len(f.Name)) + f.Name + bytesOf(f.Value)
		}
		return s
	}
	return "\x08"
}

func revBytes(r api.Rev) string {
	return bytesOf(list(whole(int64(r.Kind)), text(r.Table), whole(int64(r.Doc)), whole(int64(r.Version)), r.Value))
}

// rootOf is that of texts.
func rootOf(l ...string) string {
	switch len(l) {
	case 0:
		return sum("")
	case 1:
		return sum("\x00" + l[0])
	}
	k := 1
	for 2*k < len(l) {
		k *= 2
	}
	return sum("\x01" + rootOf(l[:k]...) + rootOf(l[k:]...))
}

// rootOfRevs is that of revisions' texts.
func rootOfRevs(revs []api.Rev) string {
	var texts []string
	for _, r := range revs {
		texts = append(texts, revBytes(r))
	}
	return rootOf(texts...)
}

// parts are the five values of a block's text.
func parts(b api.Block) []api.Value {
	statements, revs := list(), list()
	for _, s := range b.Statements {
		statements.List = append(statements.List, text(s))
	}
	for _, r := range b.Revs {
		revs.List = append(revs.List, blob(revBytes(r)))
	}
	return []api.Value{whole(int64(b.Seq)), blob(b.Prev), blob(b.Root), statements, revs}
}

func blockBytes(b api.Block) string { return bytesOf(list(parts(b)...)) }

func headOf(b api.Block) api.Head {
	return api.Head{
		Seq: b.Seq, Prev: b.Prev, Root: b.Root, Revs: uint64(len(b.Revs)), Statements: sum(bytesOf(parts(b)[3])),
	}
}

func headBytes(h api.Head) string {
	return bytesOf(list(whole(int64(h.Seq)), blob(h.Prev), blob(h.Root), whole(int64(h.Revs)), blob(h.Statements)))
}

// framed is a text's frame.
func framed(s string) string {
	size := string(binary.LittleEndian.AppendUint32(nil, uint32(len(s))))
	return size + sum(size + s)[:8] + s
}

// block is one with its Root, right or not.
func block(seq uint64, prev string, statements []string, revs ...api.Rev) api.Block {
	return api.Block{Seq: seq, Prev: prev, Root: rootOfRevs(revs), Statements: statements, Revs: revs}
}

// sizedBlock is one that has a text of n bytes, n being from 16300 on, and is right but for that.
func sizedBlock(n int) api.Block {
	b := block(1, first, append(times(16, xs(1000)), xs(128)), table("t"))
	b.Statements[16] += xs(n - len(blockBytes(b)))
	return b
}

// show is what a failure tells of something that may be long.
func show(x any) string {
	s := fmt.Sprintf("%q", fmt.Sprint(x))
	return s[:min(len(s), 300)]
}

// same tells whether blocks are alike; empty lists are like none.
func same(a, b api.Block) bool {
	sameRev := func(a, b api.Rev) bool {
		return a.Kind == b.Kind && a.Table == b.Table && a.Doc == b.Doc && a.Version == b.Version && value.Same(a.Value, b.Value)
	}
	return a.Seq == b.Seq && a.Prev == b.Prev && a.Root == b.Root &&
		slices.Equal(a.Statements, b.Statements) && slices.EqualFunc(a.Revs, b.Revs, sameRev)
}

// zero tells whether a block has nothing.
func zero(b api.Block) bool {
	return b.Seq == 0 && b.Prev == "" && b.Root == "" && len(b.Statements) == 0 && len(b.Revs) == 0
}

// chain are n right blocks behind each other, unlike in size.
func chain(t *testing.T, n int) []api.Block {
	t.Helper()
	var out []api.Block
	prev := first
	for i := range n {
		revs := []api.Rev{put("tab", uint64(i+1), 0, doc("n", whole(int64(i)))), drop("tab", uint64(i+1), 1), table("é")}[:1+i%3]
		b := block(uint64(i+1), prev, times(i%4, "SELECT "+xs(i)), revs...)
		if why := journal.Check(b); why != api.OK {
			t.Fatalf("Check of block %d: error %d", i+1, why)
		}
		out = append(out, b)
		prev = sum(headBytes(headOf(b)))
	}
	return out
}

// framesOf are the frames of blocks.
func framesOf(l []api.Block) []string {
	var out []string
	for _, b := range l {
		out = append(out, framed(blockBytes(b)))
	}
	return out
}

// anyBlock is a right one, as long as it does not become too long.
func anyBlock(r *rand.Rand) api.Block {
	var statements []string
	for range r.Intn(4) {
		statements = append(statements, strings.Repeat("sé", r.Intn(3)*r.Intn(40)))
	}
	var revs []api.Rev
	for range 1 + r.Intn(5) {
		id, version, name := r.Uint64()>>(2+r.Intn(62)), r.Uint64()>>(2+r.Intn(62)), "t"+strings.Repeat("é", r.Intn(20))
		revs = append(revs, []api.Rev{
			table(name), index(name, strings.Repeat("f", r.Intn(5))), put(name, id, version, anyDoc(r, 4)), drop(name, id, version),
		}[r.Intn(4)])
	}
	prev := make([]byte, 32)
	r.Read(prev)
	return block(1+r.Uint64()>>(2+r.Intn(62)), string(prev), statements, revs...)
}

// anyDoc is a right struct.
func anyDoc(r *rand.Rand, depth int) api.Value {
	v := doc()
	for _, name := range []string{"a", "bc", "é"} {
		switch r.Intn(7) {
		case 0:
			v.Fields = append(v.Fields, api.Field{Name: name, Value: whole(int64(r.Uint64()) >> r.Intn(64))})
		case 1:
			v.Fields = append(v.Fields, api.Field{Name: name, Value: list(text(xs(r.Intn(20))), api.Value{}, blob("\xff\x00"))})
		case 2:
			v.Fields = append(v.Fields, api.Field{Name: name, Value: api.Value{Kind: api.KindBool, B: r.Intn(2) == 0}})
		case 3:
			if depth > 1 {
				v.Fields = append(v.Fields, api.Field{Name: name, Value: anyDoc(r, depth-1)})
			}
		}
	}
	return v
}

// span is a piece of memory.
type span struct{ from, to uintptr }

// spans are the pieces of memory in which texts and lists of x lie.
func spans(x reflect.Value) []span {
	var out []span
	switch x.Kind() {
	case reflect.String:
		if x.Len() > 0 {
			from := uintptr(x.UnsafePointer())
			out = append(out, span{from, from + uintptr(x.Len())})
		}
	case reflect.Slice:
		if x.Cap() > 0 {
			from := x.Pointer()
			out = append(out, span{from, from + uintptr(x.Cap())*x.Type().Elem().Size()})
		}
		for i := range x.Len() {
			out = append(out, spans(x.Index(i))...)
		}
	case reflect.Struct:
		for i := range x.NumField() {
			out = append(out, spans(x.Field(i))...)
		}
	}
	return out
}

// apart fails, if an answer shares memory with itself or with one of the others.
func apart(t *testing.T, answer any, others ...any) {
	t.Helper()
	own := spans(reflect.ValueOf(answer))
	var all []span
	for _, o := range others {
		all = append(all, spans(reflect.ValueOf(o))...)
	}
	for i, a := range own {
		for _, b := range append(all[:len(all):len(all)], own[i+1:]...) {
			if a.from < b.to && b.from < a.to {
				t.Fatal("shared memory in", show(answer))
			}
		}
	}
}
