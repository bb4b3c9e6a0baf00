package value_test

import (
	"math/rand"
	"runtime"
	"testing"

	"codicil/api"
	"codicil/value"
)

// 2.2: paths that lead to something.
func TestGet(t *testing.T) {
	v := fields(
		field("0", text("named 0")),
		field("01", text("named 01")),
		field("a", list(whole(7), list(whole(8)), fields(field("b", text("x"))))),
		field("b.c", whole(3)),
		field("n", api.Value{}),
	)
	for i, x := range []struct {
		v    api.Value
		path []string
		want api.Value
	}{
		{v, nil, v},
		{v, []string{}, v},
		{whole(5), nil, whole(5)},
		{v, []string{"0"}, text("named 0")},
		{v, []string{"01"}, text("named 01")},
		{v, []string{"a", "0"}, whole(7)},
		{v, []string{"a", "1", "0"}, whole(8)},
		{v, []string{"a", "2", "b"}, text("x")},
		{v, []string{"b.c"}, whole(3)},
		{v, []string{"n"}, api.Value{}},
		{numbers(1001), []string{"1000"}, whole(1000)},
		{numbers(64), []string{"63"}, whole(63)},
		{fields(field("", whole(2))), []string{""}, whole(2)},
		{fields(field("b", whole(1)), field("a", whole(2)), field("b", whole(3))), []string{"b"}, whole(1)},
		{fields(field("b", whole(1)), field("a", whole(2))), []string{"a"}, whole(2)},
	} {
		if got, is := value.Get(x.v, x.path); !is || !alike(got, x.want) {
			t.Errorf("%d: Get(%q): %v, %v", i, x.path, got, is)
		}
	}
}

// 2.2: paths that lead to nothing.
func TestGetNothing(t *testing.T) {
	ten := numbers(11)
	for _, name := range []string{"", "11", "64", "-1", "-0", "+1", "00", "01", "001", "010", " 1", "1 ", "1.", "1.0", "1e0", "0x1", "1_0", "a", "٣", "１", "9223372036854775807", "9223372036854775808", "18446744073709551616", "99999999999999999999999999", "4294967296"} {
		if got, is := value.Get(ten, []string{name}); is || !alike(got, api.Value{}) {
			t.Errorf("Get of a list, %q: %v, %v", name, got, is)
		}
	}
	v := fields(field("a", whole(1)), field("l", list(whole(1))))
	for _, path := range [][]string{{"b"}, {""}, {"0"}, {"A"}, {"a", "0"}, {"a", ""}, {"a", "a"}, {"l", "1"}, {"l", "0", "0"}, {"b", "a"}} {
		if got, is := value.Get(v, path); is || !alike(got, api.Value{}) {
			t.Errorf("Get(%q): %v, %v", path, got, is)
		}
	}
	// What a kind has not is no part of it.
	parts, named := []api.Value{whole(1)}, []api.Field{{Name: "0", Value: whole(1)}}
	for k := range api.KindCount + 2 {
		v := api.Value{Kind: k, List: parts}
		if _, is := value.Get(v, []string{"0"}); is != (k == api.KindList) {
			t.Errorf("Get of kind %d with a List: %v", k, is)
		}
		v = api.Value{Kind: k, Fields: named}
		if _, is := value.Get(v, []string{"0"}); is != (k == api.KindStruct) {
			t.Errorf("Get of kind %d with Fields: %v", k, is)
		}
	}
	if _, is := value.Get(list(), []string{"0"}); is {
		t.Error("Get of an empty list")
	}
}

// 2.2: where what is put stands.
func TestPut(t *testing.T) {
	x := list(whole(9))
	a, b, c := field("a", whole(1)), field("b", whole(2)), field("c", whole(3))
	for i, p := range []struct {
		v    api.Value
		name string
		want api.Value
	}{
		{fields(), "b", fields(field("b", x))},
		{fields(b), "a", fields(field("a", x), b)},
		{fields(b), "b", fields(field("b", x))},
		{fields(b), "c", fields(b, field("c", x))},
		{fields(a, c), "b", fields(a, field("b", x), c)},
		{fields(a, b, c), "b", fields(a, field("b", x), c)},
		{fields(a, c), "aa", fields(a, field("aa", x), c)},
		{fields(a), "", fields(field("", x), a)},
		{fields(a, field("b\x00", whole(2))), "b", fields(a, field("b", x), field("b\x00", whole(2)))},
		{fields(a), "\xff", fields(a, field("\xff", x))},
		// Structs that are not right: the first field of the name, else ahead of the first greater one.
		{fields(b, a, b), "b", fields(field("b", x), a, b)},
		{fields(c, a, b), "a", fields(c, field("a", x), b)},
		{fields(a, c, a, c), "b", fields(a, field("b", x), c, a, c)},
		{fields(c, a), "b", fields(field("b", x), c, a)},
		{api.Value{Kind: api.KindStruct, N: 4, S: "s", List: []api.Value{whole(1)}}, "a", api.Value{Kind: api.KindStruct, N: 4, S: "s", List: []api.Value{whole(1)}, Fields: []api.Field{field("a", x)}}},
	} {
		if got, why := value.Put(p.v, p.name, x); why != api.OK || !alike(got, p.want) {
			t.Errorf("%d: Put(%v, %q): %v, error %d", i, p.v, p.name, got, why)
		}
	}
}

// 2.2: what is left.
func TestDrop(t *testing.T) {
	a, b, c := field("a", whole(1)), field("b", whole(2)), field("c", whole(3))
	for i, d := range []struct {
		v    api.Value
		name string
		want api.Value
	}{
		{fields(), "a", fields()},
		{fields(a), "a", fields()},
		{fields(a, b, c), "a", fields(b, c)},
		{fields(a, b, c), "b", fields(a, c)},
		{fields(a, b, c), "c", fields(a, b)},
		{fields(a, b, c), "d", fields(a, b, c)},
		{fields(a, b, c), "", fields(a, b, c)},
		{fields(a, b, a, a, c, a), "a", fields(b, c)},
		{fields(c, b, a), "b", fields(c, a)},
		{api.Value{Kind: api.KindStruct, B: true, List: []api.Value{whole(1)}, Fields: []api.Field{a}}, "a", api.Value{Kind: api.KindStruct, B: true, List: []api.Value{whole(1)}}},
	} {
		if got, why := value.Drop(d.v, d.name); why != api.OK || !alike(got, d.want) {
			t.Errorf("%d: Drop(%v, %q): %v, error %d", i, d.v, d.name, got, why)
		}
	}
}

// 2.2, P2: what is no struct; with the error all else is zero.
func TestNoStruct(t *testing.T) {
	for k := range api.KindCount + 2 {
		if k == api.KindStruct {
			continue
		}
		v := api.Value{Kind: k, Fields: []api.Field{field("a", whole(1))}}
		if got, why := value.Put(v, "a", whole(2)); why != api.ErrType || !alike(got, api.Value{}) {
			t.Errorf("Put, kind %d: %v, error %d", k, got, why)
		}
		if got, why := value.Drop(v, "a"); why != api.ErrType || !alike(got, api.Value{}) {
			t.Errorf("Drop, kind %d: %v, error %d", k, got, why)
		}
	}
}

// 2.5: what is put is got, what is dropped is not, all else stays, in structs that are right and others.
func TestFieldsLaws(t *testing.T) {
	r := rand.New(rand.NewSource(5))
	names := []string{"0", "a", "aa", "ab", "b", "c", "é"}
	for range 5000 {
		s := rightStruct(r, 3)
		name, x := names[r.Intn(len(names))], rightValue(r, 3)
		p := stays(t, s, name, x, names)
		d, _ := value.Drop(s, name)
		if value.Check(p) != api.OK || value.Check(d) != api.OK {
			t.Fatalf("%v, %q: no longer right", s, name)
		}
		w := anyValue(r, 3)
		w.Kind = api.KindStruct
		stays(t, w, []string{"", "a", "b", "1", "\xff"}[r.Intn(5)], anyValue(r, 3), []string{"", "0", "1", "a", "b", "\xff"})
	}
}

// stays puts x into s under a name and drops that name, and looks at what is got by all names; it answers what Put did.
func stays(t *testing.T, s api.Value, name string, x api.Value, names []string) api.Value {
	t.Helper()
	p, why := value.Put(s, name, x)
	d, also := value.Drop(s, name)
	if why != api.OK || also != api.OK {
		t.Fatalf("%v, %q: errors %d, %d", s, name, why, also)
	}
	if got, is := value.Get(p, []string{name}); !is || !alike(got, x) {
		t.Fatalf("%v, %q: put %v, got %v", s, name, x, got)
	}
	if _, is := value.Get(d, []string{name}); is {
		t.Fatalf("%v, %q: dropped, but got", s, name)
	}
	for _, other := range names {
		if other == name {
			continue
		}
		was, is := value.Get(s, []string{other})
		after, put := value.Get(p, []string{other})
		left, dropped := value.Get(d, []string{other})
		if put != is || dropped != is || !alike(was, after) || !alike(was, left) {
			t.Fatalf("%v, %q: %q is another one", s, name, other)
		}
	}
	return p
}

// 2.5: a right struct stays right only while name, value and count may be; Put itself refuses none of these.
func TestPutLimits(t *testing.T) {
	for i, x := range []struct {
		v    api.Value
		name string
		x    api.Value
		want api.Errno
	}{
		{full(api.MaxParts - 1), "z", whole(1), api.OK},
		{full(api.MaxParts), "z", whole(1), api.ErrMany},
		{full(api.MaxParts), "10", whole(1), api.OK},
		{fields(), long(api.MaxText), whole(1), api.OK},
		{fields(), long(api.MaxText + 1), whole(1), api.ErrLong},
		{fields(), "", whole(1), api.ErrLong},
		{fields(), "\xff", whole(1), api.ErrUtf},
		{fields(), "a", nested(whole(1), api.MaxDepth-1, true), api.OK},
		{fields(), "a", nested(whole(1), api.MaxDepth, true), api.ErrDepth},
		{fields(), "a", api.Value{Kind: 99}, api.ErrType},
	} {
		got, why := value.Put(x.v, x.name, x.x)
		if why != api.OK || value.Check(got) != x.want {
			t.Errorf("%d: error %d, Check %d, not %d", i, why, value.Check(got), x.want)
		}
	}
}

// 2.3: answers are new memory in all their lists; what is handed in is neither changed nor kept.
func TestMemory(t *testing.T) {
	r := rand.New(rand.NewSource(6))
	for range 2000 {
		v, x := anyValue(r, 3), anyValue(r, 3)
		v.Kind = api.KindStruct
		path := []string{[]string{"", "a", "b", "1"}[r.Intn(4)]}
		wasV, wasX := twin(v), twin(x)
		whole, _ := value.Get(v, nil)
		got, _ := value.Get(v, path)
		put, _ := value.Put(v, path[0], x)
		again, _ := value.Put(v, path[0], x)
		dropped, _ := value.Drop(v, path[0])
		apart(t, "Get", got, v)
		apart(t, "Get of all", whole, v, got)
		apart(t, "Put", put, v, x, got, whole)
		apart(t, "Put again", again, v, x, put)
		apart(t, "Drop", dropped, v, put, again)
		if !alike(v, wasV) || !alike(x, wasX) {
			t.Fatalf("an argument was changed: %v, %v", v, x)
		}
		if !alike(put, again) || value.Count(v) != value.Count(wasV) {
			t.Fatalf("another answer to the same arguments: %v, %v", v, x)
		}
	}
}

// 2.3: lists that were one in an argument are several in an answer, and room behind a list is not filled.
func TestMemoryShared(t *testing.T) {
	one := list(whole(1), list(whole(2)))
	v := fields(field("a", one), field("b", one), field("c", list(one, one)))
	v.Fields = append(make([]api.Field, 0, 8), v.Fields...)
	behind := v.Fields[:8]
	behind[3].Name = "behind"
	got, _ := value.Get(v, nil)
	put, _ := value.Put(v, "d", one)
	over, _ := value.Put(v, "a", one)
	self, _ := value.Put(v, "e", v)
	dropped, _ := value.Drop(v, "a")
	part, _ := value.Get(v, []string{"c"})
	for i, x := range []api.Value{got, put, over, self, dropped, part} {
		apart(t, "an answer", x, one, v)
		if len(x.Fields) > 1 && len(x.Fields[1].Value.List) > 0 {
			x.Fields[1].Value.List[0] = text("changed")
		}
		if behind[3].Name != "behind" || one.List[0].N != 1 {
			t.Errorf("%d: an argument was changed", i)
		}
	}
	if put.Fields[0].Value.List[0].N != 1 || self.Fields[3].Value.Fields[1].Value.List[0].N != 1 {
		t.Error("two lists of an answer are one")
	}
	path := []string{"c", "0"}
	if value.Get(v, path); path[0] != "c" || path[1] != "0" {
		t.Error("a path was changed")
	}
}

// P4: no goroutine is left.
func TestNoGoroutine(t *testing.T) {
	r := rand.New(rand.NewSource(7))
	before := runtime.NumGoroutine()
	for range 100 {
		v := rightStruct(r, 3)
		value.Check(v)
		value.Compare(v, v)
		value.Same(v, v)
		value.Get(v, []string{"a"})
		value.Put(v, "a", v)
		value.Drop(v, "a")
		value.Count(v)
	}
	if after := runtime.NumGoroutine(); after > before {
		t.Errorf("%d goroutines, not %d", after, before)
	}
}
