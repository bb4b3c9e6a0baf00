package value_test

import (
	"math/rand"
	"testing"

	"codicil/api"
	"codicil/value"
)

// 2.1: values in rising order, each below all behind it.
func TestCompareOrder(t *testing.T) {
	rising := []api.Value{
		{},
		yes(false), yes(true),
		whole(-1 << 63), whole(-2), whole(-1), whole(0), whole(1), whole(10), whole(1<<63 - 1),
		text(""), text("\x00"), text("Z"), text("a"), text("a\x00"), text("aa"), text("b"), text("é"), text("\U0010FFFF"),
		blob(""), blob("\x00"), blob("a"), blob("\x80"), blob("\xff"), blob("\xff\x00"),
		list(), list(api.Value{}), list(whole(1)), list(whole(1), whole(0)), list(whole(1), whole(2)), list(whole(2)), list(text("")), list(list()), list(list(whole(9))), list(fields()),
		fields(), fields(field("a", whole(1))), fields(field("a", whole(1)), field("b", whole(0))), fields(field("a", whole(2))), fields(field("a", list())), fields(field("aa", api.Value{})), fields(field("b", api.Value{})), fields(field("b", fields())),
		{Kind: api.KindCount}, {Kind: 255},
	}
	for i, a := range rising {
		for j, b := range rising {
			want := 0
			if i < j {
				want = -1
			} else if i > j {
				want = 1
			}
			if c := value.Compare(a, b); c != want {
				t.Errorf("Compare(%v, %v): %d, not %d", a, b, c, want)
			}
			if is := value.Same(a, b); is != (i == j) {
				t.Errorf("Same(%v, %v): %v", a, b, is)
			}
		}
	}
}

// 2.1: Compare looks at the fields that the kinds have alone, Same at all of them.
func TestCompareStrangeFields(t *testing.T) {
	changes := []struct {
		has []api.Kind
		set func(*api.Value)
	}{
		{[]api.Kind{api.KindBool}, func(v *api.Value) { v.B = true }},
		{[]api.Kind{api.KindInt}, func(v *api.Value) { v.N = 5 }},
		{[]api.Kind{api.KindText, api.KindBlob}, func(v *api.Value) { v.S = "z" }},
		{[]api.Kind{api.KindList}, func(v *api.Value) { v.List = []api.Value{whole(1)} }},
		{[]api.Kind{api.KindStruct}, func(v *api.Value) { v.Fields = []api.Field{{Name: "a"}} }},
	}
	for k := range api.KindCount + 2 {
		for i, x := range changes {
			want := 0
			for _, has := range x.has {
				if k == has {
					want = -1
				}
			}
			a, b := api.Value{Kind: k}, api.Value{Kind: k}
			x.set(&b)
			if c := value.Compare(a, b); c != want || value.Compare(b, a) != -want {
				t.Errorf("Compare, kind %d, field %d: %d, not %d", k, i, c, want)
			}
			if value.Same(a, b) || value.Same(b, a) || !value.Same(b, twin(b)) {
				t.Errorf("Same, kind %d, field %d", k, i)
			}
		}
	}
}

// 2.1: what a kind has not is passed over inside of lists, too, but not by Same.
func TestSameInside(t *testing.T) {
	for i, x := range []struct{ a, b api.Value }{
		{list(whole(1)), list(api.Value{Kind: api.KindInt, N: 1, S: "x"})},
		{fields(field("a", api.Value{})), fields(field("a", api.Value{N: 1}))},
		{list(list(api.Value{})), list(list(api.Value{List: []api.Value{{}}}))},
	} {
		if value.Compare(x.a, x.b) != 0 || value.Same(x.a, x.b) || value.Same(x.b, x.a) {
			t.Errorf("%d: Compare %d, Same %v", i, value.Compare(x.a, x.b), value.Same(x.a, x.b))
		}
	}
	a := fields(field("a", whole(1)), field("b", whole(2)))
	b := fields(field("b", whole(2)), field("a", whole(1)))
	if value.Same(a, b) || value.Same(a, fields(field("a", whole(1)))) || value.Same(fields(field("a", whole(1))), a) {
		t.Error("Same: fields in another order, or fewer")
	}
}

// P1: nil and empty lists are alike.
func TestCompareEmptyLists(t *testing.T) {
	for k := range api.KindCount {
		a := api.Value{Kind: k}
		b := api.Value{Kind: k, List: []api.Value{}, Fields: make([]api.Field, 0, 2)}
		if value.Compare(a, b) != 0 || value.Compare(b, a) != 0 || !value.Same(a, b) || !value.Same(b, a) {
			t.Errorf("kind %d", k)
		}
	}
}

// 2.4: of any values; of right ones Same is Compare's 0.
func TestCompareLaws(t *testing.T) {
	r := rand.New(rand.NewSource(4))
	for range 20000 {
		a, b, c := rightValue(r, 2), rightValue(r, 2), rightValue(r, 2)
		if value.Same(a, b) != (value.Compare(a, b) == 0) || value.Same(a, b) != alike(a, b) {
			t.Fatalf("Same(%v, %v): %v", a, b, value.Same(a, b))
		}
		laws(t, a, b, c)
		laws(t, anyValue(r, 2), anyValue(r, 2), anyValue(r, 2))
		if x := anyValue(r, 2); !value.Same(x, twin(x)) || value.Compare(x, twin(x)) != 0 {
			t.Fatalf("Same(%v) of itself", x)
		}
	}
}

func laws(t *testing.T, a, b, c api.Value) {
	t.Helper()
	ab, bc, ac := value.Compare(a, b), value.Compare(b, c), value.Compare(a, c)
	if ab < -1 || ab > 1 || ab != -value.Compare(b, a) {
		t.Fatalf("Compare(%v, %v): %d, turned round %d", a, b, ab, value.Compare(b, a))
	}
	if ab <= 0 && bc <= 0 && ac > 0 || ab < 0 && bc <= 0 && ac >= 0 || ab == 0 && bc == 0 && ac != 0 {
		t.Fatalf("%v, %v, %v: %d, %d, but %d", a, b, c, ab, bc, ac)
	}
}

// 2.1: all parts count, whatever the kind.
func TestCount(t *testing.T) {
	for i, x := range []struct {
		v    api.Value
		want int
	}{
		{api.Value{}, 1},
		{text("abc"), 1},
		{list(), 1},
		{list(whole(1), list(whole(2), whole(3))), 5},
		{fields(field("a", whole(1)), field("b", list(whole(1)))), 4},
		{api.Value{List: []api.Value{{}}, Fields: []api.Field{{}, {}}}, 4},
		{api.Value{Kind: 99, List: []api.Value{{List: []api.Value{{}}}}}, 3},
		{api.Value{Kind: api.KindList, Fields: []api.Field{{Value: list(whole(1))}}}, 3},
		{numbers(1000), 1001},
		{nested(whole(1), 1<<16, false), 1<<16 + 1},
		{nested(whole(1), 1<<16-1, true), 1 << 16},
	} {
		if n := value.Count(x.v); n != x.want {
			t.Errorf("%d: %d, not %d", i, n, x.want)
		}
	}
}

// P1: the deepest values that the bounds allow.
func TestDeep(t *testing.T) {
	const deep = 1 << 16
	path := make([]string, deep-1)
	for i := range path {
		path[i] = "a"
	}
	a, b := nested(whole(1), deep-1, true), nested(whole(2), deep-1, true)
	if value.Compare(a, b) != -1 || value.Compare(b, a) != 1 || value.Same(a, b) || !value.Same(a, twin(a)) {
		t.Error("Compare, Same")
	}
	if v, is := value.Get(a, path); !is || v.N != 1 {
		t.Error("Get")
	}
	if _, is := value.Get(a, append(path, "a")); is {
		t.Error("Get beyond the end")
	}
	if v, why := value.Put(a, "b", b); why != api.OK || value.Count(v) != 2*deep {
		t.Error("Put: error", why)
	}
	if v, why := value.Drop(a, "b"); why != api.OK || !alike(v, a) {
		t.Error("Drop: error", why)
	}
}
