package bin_test

import (
	"math/rand"
	"reflect"
	"strings"
	"testing"

	"codicil/api"
)

func of(kind api.Kind, s string) api.Value { return api.Value{Kind: kind, S: s} }

func whole(n int64) api.Value { return api.Value{Kind: api.KindInt, N: n} }

func list(l ...api.Value) api.Value { return api.Value{Kind: api.KindList, List: l} }

// doc is a struct; names and values take turns.
func doc(l ...any) api.Value {
	v := api.Value{Kind: api.KindStruct}
	for i := 0; i < len(l); i += 2 {
		v.Fields = append(v.Fields, api.Field{Name: l[i].(string), Value: l[i+1].(api.Value)})
	}
	return v
}

// many is a list that has v n times.
func many(n int, v api.Value) api.Value {
	v2 := list()
	for range n {
		v2.List = append(v2.List, v)
	}
	return v2
}

// within is v with so many lists around it.
func within(lists int, v api.Value) api.Value {
	for range lists {
		v = list(v)
	}
	return v
}

func xs(n int) string { return strings.Repeat("x", n) }

// sized is a right value whose text, as the chapter counts it, has n bytes, n being above 2000.
func sized(n int) api.Value {
	v := list()
	n -= 2 // the 6, and how many parts there are
	for n > 2000 {
		v.List = append(v.List, of(api.KindBlob, xs(1000)))
		n -= 1003
	}
	// What is left is two blobs, each with a length of two bytes.
	return list(append(v.List, of(api.KindBlob, xs(n/2-3)), of(api.KindBlob, xs(n-n/2-3)))...)
}

// anyRight is a right value.
func anyRight(r *rand.Rand, depth int) api.Value {
	kinds := int(api.KindList)
	if depth > 0 {
		kinds = int(api.KindCount)
	}
	v := api.Value{Kind: api.Kind(r.Intn(kinds))}
	switch v.Kind {
	case api.KindBool:
		v.B = r.Intn(2) == 0
	case api.KindInt:
		v.N = int64(r.Uint64()) >> r.Intn(64)
	case api.KindText:
		v.S = strings.Repeat("é", r.Intn(3)*r.Intn(64))
	case api.KindBlob:
		v.S = strings.Repeat("\xff", r.Intn(3)*r.Intn(128))
	case api.KindList:
		for range r.Intn(4) {
			v.List = append(v.List, anyRight(r, depth-1))
		}
	case api.KindStruct:
		for _, name := range []string{"", "a", "é", "\U0010ffff"} {
			if r.Intn(2) == 0 {
				v.Fields = append(v.Fields, api.Field{Name: "n" + name, Value: anyRight(r, depth-1)})
			}
		}
	}
	return v
}

// span is a piece of memory.
type span struct{ from, to uintptr }

// spans are the pieces of memory in which texts and lists of x lie.
func spans(x reflect.Value) []span {
	var out []span
	switch x.Kind() {
	case reflect.String:
		if x.Len() > 0 {
			from := uintptr(x.UnsafePointer())
			out = append(out, span{from, from + uintptr(x.Len())})
		}
	case reflect.Slice:
		if x.Cap() > 0 {
			from := x.Pointer()
			out = append(out, span{from, from + uintptr(x.Cap())*x.Type().Elem().Size()})
		}
		for i := range x.Len() {
			out = append(out, spans(x.Index(i))...)
		}
	case reflect.Struct:
		for i := range x.NumField() {
			out = append(out, spans(x.Field(i))...)
		}
	}
	return out
}

// apart fails, if an answer shares memory with itself or with one of the others.
func apart(t *testing.T, answer any, others ...any) {
	t.Helper()
	own := spans(reflect.ValueOf(answer))
	var all []span
	for _, o := range others {
		all = append(all, spans(reflect.ValueOf(o))...)
	}
	for i, a := range own {
		for _, b := range append(all[:len(all):len(all)], own[i+1:]...) {
			if a.from < b.to && b.from < a.to {
				t.Fatalf("shared memory in %v", answer)
			}
		}
	}
}
