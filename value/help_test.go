package value_test

import (
	"math/rand"
	"slices"
	"strings"
	"testing"
	"unsafe"

	"codicil/api"
)

func yes(b bool) api.Value            { return api.Value{Kind: api.KindBool, B: b} }
func whole(n int64) api.Value         { return api.Value{Kind: api.KindInt, N: n} }
func text(s string) api.Value         { return api.Value{Kind: api.KindText, S: s} }
func blob(s string) api.Value         { return api.Value{Kind: api.KindBlob, S: s} }
func list(l ...api.Value) api.Value   { return api.Value{Kind: api.KindList, List: l} }
func fields(l ...api.Field) api.Value { return api.Value{Kind: api.KindStruct, Fields: l} }

func field(name string, v api.Value) api.Field { return api.Field{Name: name, Value: v} }

func long(n int) string { return strings.Repeat("x", n) }

// nested is v with so many lists, or structs, around it.
func nested(v api.Value, lists int, structs bool) api.Value {
	for range lists {
		if structs {
			v = fields(field("a", v))
		} else {
			v = list(v)
		}
	}
	return v
}

// numbers is a list of so many ints, from 0 on.
func numbers(n int) api.Value {
	var v api.Value
	v.Kind = api.KindList
	for i := range n {
		v.List = append(v.List, whole(int64(i)))
	}
	return v
}

// full is a right struct of so many fields, whose names rise: "10", "11" ..
func full(n int) api.Value {
	v := api.Value{Kind: api.KindStruct}
	for i := range n {
		v.Fields = append(v.Fields, field(string([]byte{'1' + byte(i/10), '0' + byte(i%10)}), whole(int64(i))))
	}
	return v
}

// twin is a copy that the tests make themselves; an empty list stays one.
func twin(v api.Value) api.Value {
	v.S = strings.Clone(v.S)
	v.List = slices.Clone(v.List)
	for i := range v.List {
		v.List[i] = twin(v.List[i])
	}
	v.Fields = slices.Clone(v.Fields)
	for i, f := range v.Fields {
		v.Fields[i] = field(strings.Clone(f.Name), twin(f.Value))
	}
	return v
}

// alike holds two values against each other by the tests' own means; nil and empty lists are alike.
func alike(a, b api.Value) bool {
	return a.Kind == b.Kind && a.B == b.B && a.N == b.N && a.S == b.S &&
		slices.EqualFunc(a.List, b.List, alike) &&
		slices.EqualFunc(a.Fields, b.Fields, func(x, y api.Field) bool {
			return x.Name == y.Name && alike(x.Value, y.Value)
		})
}

// room is a piece of memory.
type room struct{ from, to uintptr }

// rooms are the pieces of memory that the lists and texts of a value lie in, the unused room behind lists among them.
func rooms(v api.Value) []room {
	var out []room
	lie := func(p unsafe.Pointer, n uintptr) {
		if n > 0 {
			out = append(out, room{uintptr(p), uintptr(p) + n})
		}
	}
	lie(unsafe.Pointer(unsafe.StringData(v.S)), uintptr(len(v.S)))
	lie(unsafe.Pointer(unsafe.SliceData(v.List)), uintptr(cap(v.List))*unsafe.Sizeof(api.Value{}))
	lie(unsafe.Pointer(unsafe.SliceData(v.Fields)), uintptr(cap(v.Fields))*unsafe.Sizeof(api.Field{}))
	for _, part := range v.List {
		out = append(out, rooms(part)...)
	}
	for _, f := range v.Fields {
		lie(unsafe.Pointer(unsafe.StringData(f.Name)), uintptr(len(f.Name)))
		out = append(out, rooms(f.Value)...)
	}
	return out
}

// apart fails, if an answer shares memory with itself, with an argument or with an earlier answer.
func apart(t *testing.T, what string, answer api.Value, others ...api.Value) {
	t.Helper()
	own := rooms(answer)
	var all []room
	for _, o := range others {
		all = append(all, rooms(o)...)
	}
	for i, r := range own {
		for _, q := range append(all[:len(all):len(all)], own[i+1:]...) {
			if r.from < q.to && q.from < r.to {
				t.Fatalf("%s: shared memory in %v", what, answer)
			}
		}
	}
}

// rightValue is any right one, of few names and texts, so that many are alike.
func rightValue(r *rand.Rand, depth int) api.Value {
	kinds := 7
	if depth == 0 {
		kinds = 5
	}
	switch api.Kind(r.Intn(kinds)) {
	case api.KindBool:
		return yes(r.Intn(2) == 0)
	case api.KindInt:
		return whole([]int64{-1 << 63, -1, 0, 1, 1<<63 - 1}[r.Intn(5)])
	case api.KindText:
		return text([]string{"", "a", "ab", "b", "é"}[r.Intn(5)])
	case api.KindBlob:
		return blob([]string{"", "a", "\xff", "a\x00"}[r.Intn(4)])
	case api.KindList:
		v := list()
		for range r.Intn(4) {
			v.List = append(v.List, rightValue(r, depth-1))
		}
		return v
	case api.KindStruct:
		return rightStruct(r, depth)
	}
	return api.Value{}
}

func rightStruct(r *rand.Rand, depth int) api.Value {
	v := fields()
	for _, name := range []string{"0", "a", "ab", "b", "é"} {
		if r.Intn(2) == 0 {
			v.Fields = append(v.Fields, field(name, rightValue(r, depth-1)))
		}
	}
	return v
}

// anyValue is a hand-made one, right or not: any kind, fields that it has not, names that do not rise.
func anyValue(r *rand.Rand, depth int) api.Value {
	v := rightValue(r, min(depth, 2))
	if r.Intn(3) == 0 {
		v.Kind = api.Kind(r.Intn(10))
	}
	if r.Intn(4) == 0 {
		v.B = !v.B
	}
	if r.Intn(4) == 0 {
		v.N++
	}
	if r.Intn(4) == 0 {
		v.S += "\xc0"
	}
	for depth > 0 && r.Intn(3) == 0 {
		v.List = append(v.List, anyValue(r, depth-1))
	}
	for depth > 0 && r.Intn(3) == 0 {
		v.Fields = append(v.Fields, field([]string{"", "a", "b", "1", "\xff"}[r.Intn(5)], anyValue(r, depth-1)))
	}
	if len(v.List) == 0 && r.Intn(2) == 0 {
		v.List = []api.Value{}
	}
	if len(v.Fields) == 0 && r.Intn(2) == 0 {
		v.Fields = make([]api.Field, 0, 3)
	}
	return v
}
