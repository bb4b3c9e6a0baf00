package btree_test

import (
	"cmp"
	"fmt"
	"math/rand"
	"reflect"
	"slices"
	"strings"
	"sync"
	"testing"
	"unsafe"

	"codicil/api"
	"codicil/btree"
	"codicil/value"
)

func whole(n int64) api.Value { return api.Value{Kind: api.KindInt, N: n} }

func text(s string) api.Value { return api.Value{Kind: api.KindText, S: s} }

func blob(s string) api.Value { return api.Value{Kind: api.KindBlob, S: s} }

func yes(b bool) api.Value { return api.Value{Kind: api.KindBool, B: b} }

func list(l ...api.Value) api.Value { return api.Value{Kind: api.KindList, List: l} }

// doc is a struct; names and values take turns.
func doc(l ...any) api.Value {
	v := api.Value{Kind: api.KindStruct}
	for i := 0; i < len(l); i += 2 {
		v.Fields = append(v.Fields, api.Field{Name: l[i].(string), Value: l[i+1].(api.Value)})
	}
	return v
}

// within is v with so many structs around it.
func within(structs int, v api.Value) api.Value {
	for range structs {
		v = doc("a", v)
	}
	return v
}

func xs(n int) string { return strings.Repeat("x", n) }

// from and above are bounds with a key: that lies within, that does not.
func from(v api.Value) api.Bound { return api.Bound{Has: true, Key: v} }

func above(v api.Value) api.Bound { return api.Bound{Has: true, Open: true, Key: v} }

// wrongKeys are values that are not right, each with its error.
func wrongKeys() []struct {
	key api.Value
	why api.Errno
} {
	many := list()
	many.List = make([]api.Value, api.MaxParts+1)
	return []struct {
		key api.Value
		why api.Errno
	}{
		{api.Value{Kind: api.KindCount}, api.ErrType},
		{api.Value{Kind: 255}, api.ErrType},
		{api.Value{N: 1}, api.ErrType},
		{api.Value{Kind: api.KindInt, S: "a"}, api.ErrType},
		{text(xs(api.MaxText + 1)), api.ErrLong},
		{blob(xs(api.MaxText + 1)), api.ErrLong},
		{text("\xff"), api.ErrUtf},
		{many, api.ErrMany},
		{within(api.MaxDepth+1, whole(1)), api.ErrDepth},
		{doc("", whole(1)), api.ErrLong},
		{doc("a", whole(1), "a", whole(1)), api.ErrTwice},
		{doc("b", whole(1), "a", whole(1)), api.ErrTwice},
		{list(whole(1), text("\xff")), api.ErrUtf},
		{within(1<<12, whole(1)), api.ErrDepth},
	}
}

// rising are right keys of all kinds, each above all ahead of it.
func rising() []api.Value {
	return []api.Value{
		{}, yes(false), yes(true),
		whole(-1 << 63), whole(-2), whole(0), whole(1), whole(1<<63 - 1),
		text(""), text("Z"), text("a"), text("a\x00"), text("aa"), text(xs(api.MaxText)), text("é"),
		blob(""), blob("a"), blob("\xff"),
		list(), list(whole(1)), list(whole(1), whole(0)), list(whole(2)), list(text("")),
		doc(), doc("a", whole(1)), doc("a", whole(2)), doc("a", list()), within(api.MaxDepth, whole(0)), doc("b", api.Value{}),
	}
}

// pair is a key that has a number.
type pair struct {
	key api.Value
	id  uint64
}

// model is what a tree has, in the order in which it came.
type model []pair

// at is the place of a pair; below 0, if it is not there.
func (m model) at(p pair) int {
	return slices.IndexFunc(m, func(x pair) bool { return x.id == p.id && value.Same(x.key, p.key) })
}

// put and drop are the chapter's words of right keys.
func (m *model) put(p pair) api.Errno {
	switch {
	case m.at(p) >= 0:
		return api.ErrTwice
	case len(*m) == 1024:
		return api.ErrFull
	}
	*m = append(*m, p)
	return api.OK
}

func (m *model) drop(p pair) api.Errno {
	i := m.at(p)
	if i < 0 {
		return api.ErrUnknown
	}
	*m = slices.Delete(*m, i, i+1)
	return api.OK
}

// between are the keys that are meant, rising, with their numbers, rising.
func (m model) between(low, high api.Bound) []api.Entry {
	var out []api.Entry
	sorted := slices.SortedFunc(slices.Values(m), func(a, b pair) int {
		return cmp.Or(value.Compare(a.key, b.key), cmp.Compare(a.id, b.id))
	})
	for _, p := range sorted {
		if !lies(p.key, low, high) {
			continue
		}
		if n := len(out); n > 0 && value.Same(out[n-1].Key, p.key) {
			out[n-1].Ids = append(out[n-1].Ids, p.id)
			continue
		}
		out = append(out, api.Entry{Key: p.key, Ids: []uint64{p.id}})
	}
	return out
}

// lies tells whether a key lies within both bounds.
func lies(key api.Value, low, high api.Bound) bool {
	if low.Has {
		c := value.Compare(key, low.Key)
		if c == -1 || low.Open && c == 0 {
			return false
		}
	}
	if high.Has {
		c := value.Compare(key, high.Key)
		if c == 1 || high.Open && c == 0 {
			return false
		}
	}
	return true
}

// of are the numbers of a key.
func (m model) of(key api.Value) []uint64 {
	var out []uint64
	for _, e := range m.between(from(key), from(key)) {
		out = append(out, e.Ids...)
	}
	return out
}

// digits is how many binary ones a number has.
func digits(n int) int { return len(fmt.Sprintf("%b", n)) }

// depths are those of trees of 0, 1, 2 and so on keys that rise: trees of as many keys that came otherwise have no other ones.
var depths = sync.OnceValue(func() []int {
	x := btree.New()
	out := []int{x.Depth()}
	for _, p := range numbered(api.MaxLeaves) {
		x.Put(p.key, p.id)
		out = append(out, x.Depth())
	}
	return out
})

// treeOf is one of pairs, put in their order.
func treeOf(t *testing.T, l []pair) *btree.Tree {
	t.Helper()
	x := btree.New()
	for _, p := range l {
		mustPut(t, x, p.key, p.id)
	}
	return x
}

func mustPut(t *testing.T, x *btree.Tree, key api.Value, id uint64) {
	t.Helper()
	if why := x.Put(key, id); why != api.OK {
		t.Fatalf("Put(%s, %d): error %d", show(key), id, why)
	}
}

func mustDrop(t *testing.T, x *btree.Tree, key api.Value, id uint64) {
	t.Helper()
	if why := x.Drop(key, id); why != api.OK {
		t.Fatalf("Drop(%s, %d): error %d", show(key), id, why)
	}
}

// sameEntries tells whether lists are alike; no list of numbers is empty.
func sameEntries(a, b []api.Entry) bool {
	return slices.EqualFunc(a, b, func(a, b api.Entry) bool {
		return value.Same(a.Key, b.Key) && slices.Equal(a.Ids, b.Ids)
	})
}

// isAs fails, if a tree has not just what the model has.
func isAs(t *testing.T, x *btree.Tree, m model) {
	t.Helper()
	want := m.between(api.Bound{}, api.Bound{})
	got, why := x.Range(api.Bound{}, api.Bound{})
	if why != api.OK || !sameEntries(got, want) {
		t.Fatalf("Range: %s, error %d, not %s", show(got), why, show(want))
	}
	if x.Count() != len(m) {
		t.Fatalf("Count: %d of %d pairs", x.Count(), len(m))
	}
	if d := x.Depth(); d != depths()[len(want)] || d > digits(len(want)+1) {
		t.Fatalf("Depth: %d of %d keys", d, len(want))
	}
	for _, e := range want {
		if ids, why := x.Find(e.Key); why != api.OK || !slices.Equal(ids, e.Ids) {
			t.Fatalf("Find(%s): %v, error %d, not %v", show(e.Key), ids, why, e.Ids)
		}
	}
}

// numbered are n pairs whose keys rise by two.
func numbered(n int) []pair {
	var out []pair
	for i := range n {
		out = append(out, pair{whole(int64(2*i + 2)), uint64(i)})
	}
	return out
}

// shuffled is a list in another order.
func shuffled[T any](r *rand.Rand, l []T) []T {
	out := slices.Clone(l)
	r.Shuffle(len(out), func(i, j int) { out[i], out[j] = out[j], out[i] })
	return out
}

// orders are all of a list.
func orders[T any](l []T) [][]T {
	if len(l) == 0 {
		return [][]T{nil}
	}
	var out [][]T
	for i := range l {
		rest := slices.Delete(slices.Clone(l), i, i+1)
		for _, o := range orders(rest) {
			out = append(out, append([]T{l[i]}, o...))
		}
	}
	return out
}

// show is what a failure tells of something that may be long.
func show(x any) string {
	s := fmt.Sprintf("%q", fmt.Sprint(x))
	return s[:min(len(s), 300)]
}

// lent is a text whose bytes can be changed behind its back.
func lent(s string) (string, func()) {
	b := []byte(s)
	return unsafe.String(&b[0], len(b)), func() {
		for i := range b {
			b[i] = '!'
		}
	}
}

// span is a piece of memory.
type span struct{ from, to uintptr }

// spans are the pieces of memory in which texts and lists of x lie.
func spans(x reflect.Value) []span {
	var out []span
	switch x.Kind() {
	case reflect.String:
		if x.Len() > 0 {
			from := uintptr(x.UnsafePointer())
			out = append(out, span{from, from + uintptr(x.Len())})
		}
	case reflect.Slice:
		if x.Cap() > 0 {
			from := x.Pointer()
			out = append(out, span{from, from + uintptr(x.Cap())*x.Type().Elem().Size()})
		}
		for i := range x.Len() {
			out = append(out, spans(x.Index(i))...)
		}
	case reflect.Struct:
		for i := range x.NumField() {
			out = append(out, spans(x.Field(i))...)
		}
	}
	return out
}

// apart fails, if an answer shares memory with itself or with one of the others.
func apart(t *testing.T, answer any, others ...any) {
	t.Helper()
	own := spans(reflect.ValueOf(answer))
	var all []span
	for _, o := range others {
		all = append(all, spans(reflect.ValueOf(o))...)
	}
	for i, a := range own {
		for _, b := range append(all[:len(all):len(all)], own[i+1:]...) {
			if a.from < b.to && b.from < a.to {
				t.Fatal("shared memory in", show(answer))
			}
		}
	}
}
