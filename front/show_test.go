package front_test

import (
	"math"
	"strings"
	"testing"

	"codicil/api"
	"codicil/front"
	"codicil/value"
)

// 20.1: values of each kind, shown.
func TestShow(t *testing.T) {
	for _, x := range []struct {
		v    api.Value
		want string
	}{
		{null(), "null"},
		{flag(true), "true"},
		{flag(false), "false"},
		{number(0), "0"},
		{number(7), "7"},
		{number(-1), "-1"},
		{number(math.MaxInt64), "9223372036854775807"},
		{number(math.MinInt64), "-9223372036854775808"},
		{word(""), "''"},
		{word("abc"), "'abc'"},
		{word("it's"), `'it\27s'`},
		{word(`a\b`), `'a\5cb'`},
		{word(`\27`), `'\5c27'`},
		{word("é"), `'\c3\a9'`},
		{word("\x00\x1f\x20\x7e\x7f\xff"), `'\00\1f ~\7f\ff'`},
		{word("a\nb\r\t"), `'a\0ab\0d\09'`},
		{word(`"`), `'"'`},
		{blob(""), "x''"},
		{blob("abc"), "x'abc'"},
		{blob("'\\\xfe"), `x'\27\5c\fe'`},
		{all(), "[]"},
		{all(null()), "[null]"},
		{all(number(1), number(2), number(3)), "[1, 2, 3]"},
		{all(all(), doc(), all(all())), "[[], {}, [[]]]"},
		{doc(), "{}"},
		{doc("a", number(1)), "{'a': 1}"},
		{doc("a", number(1), "b", word("x")), "{'a': 1, 'b': 'x'}"},
		{doc("it's", doc("\xff", all(flag(true), null()))), `{'it\27s': {'\ff': [true, null]}}`},
		{doc("", null()), "{'': null}"},
		// Of values that are not right just the fields of their kind are told, in the order in which they are.
		{doc("b", number(1), "a", number(2), "b", number(3)), "{'b': 1, 'a': 2, 'b': 3}"},
		{api.Value{B: true, N: 7, S: "x", List: []api.Value{{}}, Fields: []api.Field{{}}}, "null"},
		{api.Value{Kind: api.KindBool, N: 1, S: "x"}, "false"},
		{api.Value{Kind: api.KindInt, N: 1, S: "x", B: true}, "1"},
		{api.Value{Kind: api.KindText, N: 1, S: "x"}, "'x'"},
		{api.Value{Kind: api.KindText, S: "\xff\xfe"}, `'\ff\fe'`},
		{api.Value{Kind: api.KindList, S: "x", Fields: []api.Field{{Name: "a"}}}, "[]"},
		{api.Value{Kind: api.KindStruct, S: "x", List: []api.Value{{}}}, "{}"},
		{api.Value{Kind: api.KindCount}, "?"},
		{api.Value{Kind: 255, S: "x", N: 1}, "?"},
		{all(api.Value{Kind: 8}, number(1), api.Value{Kind: 7, List: []api.Value{{}}}), "[?, 1, ?]"},
		{doc("a", api.Value{Kind: 99}), "{'a': ?}"},
	} {
		v := twin(x.v)
		if got := front.Show(x.v); got != x.want || saidShow(x.v) != x.want {
			t.Errorf("Show(%s) = %s, not %s, said %s", show(x.v), got, x.want, saidShow(x.v))
		}
		if !same(v, x.v) {
			t.Errorf("Show changed %s", show(v))
		}
	}
}

// 20.1: each byte, in texts, blobs and names.
func TestShowBytes(t *testing.T) {
	for i := range 256 {
		b := string([]byte{byte(i)})
		inside := b
		if i < 32 || i > 126 || i == 39 || i == 92 {
			inside = "\\" + string("0123456789abcdef"[i/16]) + string("0123456789abcdef"[i%16])
		}
		for v, want := range map[string]string{
			front.Show(word(b)):                    "'" + inside + "'",
			front.Show(blob(b)):                    "x'" + inside + "'",
			front.Show(word("a" + b + b + "z")):    "'a" + inside + inside + "z'",
			front.Show(doc("n"+b, all(blob(b+b)))): "{'n" + inside + "': [x'" + inside + inside + "']}",
		} {
			if v != want {
				t.Errorf("byte %d: %s, not %s", i, v, want)
			}
		}
	}
}

// 20.1, P1: great values, whatever they are.
func TestShowGreat(t *testing.T) {
	deep, wide := null(), all(many(1<<17, func(i int) api.Value { return number(int64(i)) })...)
	for range 1 << 16 {
		deep = all(deep)
	}
	if s := front.Show(deep); s != strings.Repeat("[", 1<<16)+"null"+strings.Repeat("]", 1<<16) {
		t.Errorf("a deep one: %s", show(s))
	}
	if s := front.Show(wide); s != saidShow(wide) {
		t.Errorf("a wide one: %s", show(s))
	}
	long := word(strings.Repeat("x'", 1<<20))
	if s := front.Show(long); s != "'"+strings.Repeat(`x\27`, 1<<20)+"'" {
		t.Errorf("a long one: %s", show(s))
	}
}

// alikes are right values that are easily taken for one another.
func alikes() []api.Value {
	out := []api.Value{null(), flag(true), flag(false), number(0), number(1), number(-1), number(10), all(), doc()}
	for _, s := range []string{"", "a", "null", "true", "0", "[]", "{}", "x", "x''", "'", "''", `\`, `\27`, `\5c`, "', '", "a', 'b", "': ", "a': 1, 'b", "\x00", "00", "é", ", ", ": ", " ", "[", "]", "{'a': 1}"} {
		out = append(out, word(s), blob(s), all(word(s)), all(blob(s)), all(word(s), word(s)), doc(s+"n", null()), doc("n", word(s)), doc("n", blob(s)), all(doc("n", word(s))))
	}
	for _, s := range []string{"\xff", "\xc3", "a\xff"} {
		out = append(out, blob(s), all(blob(s)))
	}
	for _, v := range out[:9] {
		out = append(out, all(v), all(v, v), all(all(v)), all(all(), v), all(v, all()), all(doc("a", v)), doc("a", v), doc("a", v, "b", v), doc("a", all(v)), doc("a", doc("a", v)), doc("a", doc("a", null()), "b", v))
	}
	return out
}

// 20.5: values that are right and unlike are shown unlike.
func TestToldApart(t *testing.T) {
	seen := map[string]api.Value{}
	for _, v := range alikes() {
		if value.Check(v) != api.OK {
			continue
		}
		s := front.Show(v)
		if s != saidShow(v) {
			t.Fatalf("Show(%s) = %s", show(v), s)
		}
		if other, is := seen[s]; is && !value.Same(v, other) {
			t.Errorf("20.5: %s and %s are both shown as %s", show(v), show(other), s)
		}
		seen[s] = v
	}
	if len(seen) < 300 {
		t.Errorf("%d values", len(seen))
	}
}
