package value_test

import (
	"math/rand"
	"strings"
	"testing"

	"codicil/api"
	"codicil/value"
)

type checked struct {
	name string
	v    api.Value
	want api.Errno
}

func runChecks(t *testing.T, l []checked) {
	t.Helper()
	for _, x := range l {
		if why := value.Check(x.v); why != x.want {
			t.Errorf("%s: error %d, not %d", x.name, why, x.want)
		}
	}
}

// 2.1: right values of each kind, at the limits.
func TestCheckRight(t *testing.T) {
	runChecks(t, []checked{
		{"null", api.Value{}, api.OK},
		{"false", yes(false), api.OK},
		{"true", yes(true), api.OK},
		{"least int", whole(-1 << 63), api.OK},
		{"greatest int", whole(1<<63 - 1), api.OK},
		{"empty text", text(""), api.OK},
		{"longest text", text(long(api.MaxText)), api.OK},
		{"text of greater runes", text("é€\U0010FFFF\x00"), api.OK},
		{"empty blob", blob(""), api.OK},
		{"longest blob, no UTF-8", blob(strings.Repeat("\xff", api.MaxText)), api.OK},
		{"empty list", list(), api.OK},
		{"longest list", numbers(api.MaxParts), api.OK},
		{"empty struct", fields(), api.OK},
		{"longest struct", full(api.MaxParts), api.OK},
		{"longest name", fields(field(long(api.MaxText), whole(1))), api.OK},
		{"shortest name", fields(field("\x00", whole(1))), api.OK},
		{"names by bytes", fields(field("Z", whole(1)), field("a", whole(2)), field("ab", whole(3)), field("é", whole(4))), api.OK},
		{"deepest lists", nested(whole(1), api.MaxDepth, false), api.OK},
		{"deepest structs", nested(text("a"), api.MaxDepth, true), api.OK},
		{"deepest, empty", nested(list(), api.MaxDepth-1, true), api.OK},
		{"like parts", list(whole(1), whole(1)), api.OK},
	})
}

// P1: nil and empty lists are alike, where a kind has them and where it has not.
func TestCheckEmptyLists(t *testing.T) {
	for k := range api.KindCount {
		v := api.Value{Kind: k, List: []api.Value{}, Fields: make([]api.Field, 0, 4)}
		if why := value.Check(v); why != api.OK {
			t.Errorf("kind %d with empty lists: error %d", k, why)
		}
	}
}

// 2.1: each error alone, one past each limit.
func TestCheckWrong(t *testing.T) {
	runChecks(t, []checked{
		{"no kind", api.Value{Kind: api.KindCount}, api.ErrType},
		{"no kind at all", api.Value{Kind: 255}, api.ErrType},
		{"long text", text(long(api.MaxText + 1)), api.ErrLong},
		{"long blob", blob(long(api.MaxText + 1)), api.ErrLong},
		{"no UTF-8", text("a\xff"), api.ErrUtf},
		{"cut UTF-8", text("\xc3"), api.ErrUtf},
		{"needlessly long UTF-8", text("\xc0\x80"), api.ErrUtf},
		{"half of a pair", text("\xed\xa0\x80"), api.ErrUtf},
		{"beyond the greatest rune", text("\xf4\x90\x80\x80"), api.ErrUtf},
		{"many parts", numbers(api.MaxParts + 1), api.ErrMany},
		{"many fields", full(api.MaxParts + 1), api.ErrMany},
		{"deep lists", nested(list(), api.MaxDepth, false), api.ErrDepth},
		{"deep structs", nested(fields(), api.MaxDepth, true), api.ErrDepth},
		{"a struct in deep lists", nested(fields(), api.MaxDepth, false), api.ErrDepth},
		{"very deep", nested(whole(1), 1<<16, false), api.ErrDepth},
		{"empty name", fields(field("", whole(1))), api.ErrLong},
		{"long name", fields(field(long(api.MaxText+1), whole(1))), api.ErrLong},
		{"name without UTF-8", fields(field("\xff", whole(1))), api.ErrUtf},
		{"same name", fields(field("a", whole(1)), field("a", whole(1))), api.ErrTwice},
		{"falling names", fields(field("b", whole(1)), field("a", whole(1))), api.ErrTwice},
		{"same name, not next", fields(field("a", whole(1)), field("b", whole(1)), field("a", whole(1))), api.ErrTwice},
		{"a wrong part", list(whole(1), text("\xff")), api.ErrUtf},
		{"a wrong field", fields(field("a", whole(1)), field("b", text("\xff"))), api.ErrUtf},
		{"far inside", nested(text("\xff"), api.MaxDepth, true), api.ErrUtf},
	})
}

// 2.1: each field that a kind has not.
func TestCheckStrangeFields(t *testing.T) {
	sets := []struct {
		has []api.Kind
		set func(*api.Value)
	}{
		{[]api.Kind{api.KindBool}, func(v *api.Value) { v.B = true }},
		{[]api.Kind{api.KindInt}, func(v *api.Value) { v.N = -1 }},
		{[]api.Kind{api.KindText, api.KindBlob}, func(v *api.Value) { v.S = "a" }},
		{[]api.Kind{api.KindList}, func(v *api.Value) { v.List = []api.Value{{}} }},
		{[]api.Kind{api.KindStruct}, func(v *api.Value) { v.Fields = []api.Field{{Name: "a"}} }},
	}
	for k := range api.KindCount + 1 {
		for i, s := range sets {
			want := api.ErrType
			for _, has := range s.has {
				if k == has {
					want = api.OK
				}
			}
			v := api.Value{Kind: k}
			s.set(&v)
			if why := value.Check(v); why != want {
				t.Errorf("kind %d, field %d: error %d, not %d", k, i, why, want)
			}
		}
	}
}

// 2.1, P3: which error comes first.
func TestCheckFirst(t *testing.T) {
	deepMany := nested(numbers(api.MaxParts+1), api.MaxDepth, false)
	strangeText := text(long(api.MaxText + 1))
	strangeText.N = 1
	strangeList := numbers(api.MaxParts + 1)
	strangeList.B = true
	manyBad := numbers(api.MaxParts + 1)
	manyBad.List[0] = api.Value{Kind: 99}
	manyNames := full(api.MaxParts + 1)
	manyNames.Fields[0].Name = ""
	wrong := api.Value{Kind: 99}
	runChecks(t, []checked{
		{"type ahead of long", strangeText, api.ErrType},
		{"no kind ahead of long", api.Value{Kind: 99, S: long(api.MaxText + 1)}, api.ErrType},
		{"type ahead of many", strangeList, api.ErrType},
		{"type ahead of parts", api.Value{Kind: api.KindStruct, List: []api.Value{text("\xff")}}, api.ErrType},
		{"long ahead of UTF-8", text(strings.Repeat("\xff", api.MaxText+1)), api.ErrLong},
		{"many ahead of depth", deepMany, api.ErrMany},
		{"many ahead of parts", manyBad, api.ErrMany},
		{"many ahead of names", manyNames, api.ErrMany},
		{"depth ahead of parts", nested(list(wrong), api.MaxDepth, false), api.ErrDepth},
		{"depth ahead of names", nested(fields(field("", wrong)), api.MaxDepth, false), api.ErrDepth},
		{"the first part", list(text("\xff"), wrong), api.ErrUtf},
		{"the first part's inside ahead of the second", list(list(text("\xff")), wrong), api.ErrUtf},
		{"long name ahead of UTF-8", fields(field(strings.Repeat("\xff", api.MaxText+1), whole(1))), api.ErrLong},
		{"long name ahead of twice", fields(field("y", whole(1)), field(long(api.MaxText+1), whole(1))), api.ErrLong},
		{"empty name ahead of twice", fields(field("y", whole(1)), field("", whole(1))), api.ErrLong},
		{"UTF-8 of a name ahead of twice", fields(field("\U0010FFFF", whole(1)), field("\xc0", whole(1))), api.ErrUtf},
		{"name ahead of value", fields(field("", wrong)), api.ErrLong},
		{"UTF-8 of a name ahead of value", fields(field("\xff", wrong)), api.ErrUtf},
		{"twice ahead of value", fields(field("a", whole(1)), field("a", wrong)), api.ErrTwice},
		{"value ahead of the next name", fields(field("a", wrong), field("a", whole(1))), api.ErrType},
		{"inside of a value ahead of the next name", fields(field("a", list(text("\xff"))), field("", whole(1))), api.ErrUtf},
	})
}

// P1, P3: hand-made values are answered, and the same again.
func TestCheckAny(t *testing.T) {
	r := rand.New(rand.NewSource(3))
	for range 5000 {
		v := anyValue(r, 4)
		if a, b := value.Check(v), value.Check(twin(v)); a != b {
			t.Fatalf("Check(%v): %d and %d", v, a, b)
		}
		if w := rightValue(r, api.MaxDepth); value.Check(w) != api.OK {
			t.Fatalf("Check(%v): error %d", w, value.Check(w))
		}
	}
}
