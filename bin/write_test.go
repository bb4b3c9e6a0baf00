package bin_test

import (
	"math"
	"math/rand"
	"testing"

	"codicil/api"
	"codicil/bin"
	"codicil/value"
)

// samples are values and their texts.
func samples() map[string]api.Value {
	return map[string]api.Value{
		"\x00":         {},
		"\x01":         {Kind: api.KindBool},
		"\x02":         {Kind: api.KindBool, B: true},
		"\x03\x00":     whole(0),
		"\x03\x01":     whole(-1),
		"\x03\x02":     whole(1),
		"\x03\x03":     whole(-2),
		"\x03\x7e":     whole(63),
		"\x03\x7f":     whole(-64),
		"\x03\x80\x01": whole(64),
		"\x03\x81\x01": whole(-65),
		"\x03\xfe\xff\xff\xff\xff\xff\xff\xff\xff\x01": whole(math.MaxInt64),
		"\x03\xff\xff\xff\xff\xff\xff\xff\xff\xff\x01": whole(math.MinInt64),
		"\x03\xfd\xff\xff\xff\xff\xff\xff\xff\xff\x01": whole(math.MinInt64 + 1),
		"\x04\x00":                       of(api.KindText, ""),
		"\x04\x02\xc3\xa9":               of(api.KindText, "é"),
		"\x04\x7f" + xs(127):             of(api.KindText, xs(127)),
		"\x04\x80\x01" + xs(128):         of(api.KindText, xs(128)),
		"\x04\x80\x08" + xs(api.MaxText): of(api.KindText, xs(api.MaxText)),
		"\x05\x00":                       of(api.KindBlob, ""),
		"\x05\x02\xff\x00":               of(api.KindBlob, "\xff\x00"),
		"\x05\x80\x08" + xs(api.MaxText): of(api.KindBlob, xs(api.MaxText)),
		"\x06\x00":                       list(),
		"\x06\x02\x00\x06\x01\x02":       list(api.Value{}, list(api.Value{Kind: api.KindBool, B: true})),
		"\x06\x40" + string(make([]byte, api.MaxParts)):    many(api.MaxParts, api.Value{}),
		"\x06\x01\x06\x01\x06\x01\x06\x01\x06\x01\x06\x00": within(api.MaxDepth-1, list()),
		"\x07\x00":              doc(),
		"\x07\x01\x01a\x03\x01": doc("a", whole(-1)),
		"\x07\x02\x01a\x07\x01\x01a\x00\x02ab\x06\x00": doc("a", doc("a", api.Value{}), "ab", list()),
		"\x07\x01\x80\x08" + xs(api.MaxText) + "\x00":  doc(xs(api.MaxText), api.Value{}),
	}
}

func TestWriteSamples(t *testing.T) {
	for text, v := range samples() {
		if s, why := bin.Write(v); s != text || why != api.OK {
			t.Errorf("Write(%v) = %x, error %d", v, s, why)
		}
		if w, why := bin.Read(text); !value.Same(v, w) || why != api.OK {
			t.Errorf("Read(%x) = %v, error %d", text, w, why)
		}
	}
}

func TestWriteWrong(t *testing.T) {
	for _, c := range []struct {
		v   api.Value
		why api.Errno
	}{
		{api.Value{Kind: api.KindCount}, api.ErrType},
		{api.Value{Kind: 255}, api.ErrType},
		{api.Value{N: 1}, api.ErrType},
		{api.Value{Kind: api.KindList, Fields: doc("a", api.Value{}).Fields}, api.ErrType},
		{of(api.KindText, xs(api.MaxText+1)), api.ErrLong},
		{of(api.KindBlob, xs(api.MaxText+1)), api.ErrLong},
		{doc("", api.Value{}), api.ErrLong},
		{of(api.KindText, "\xff"), api.ErrUtf},
		{doc("\xff", api.Value{}), api.ErrUtf},
		{many(api.MaxParts+1, api.Value{}), api.ErrMany},
		{within(api.MaxDepth+1, api.Value{}), api.ErrDepth},
		{within(1<<16, api.Value{}), api.ErrDepth},
		{doc("b", api.Value{}, "a", api.Value{}), api.ErrTwice},
		{doc("a", list(doc("c", api.Value{}, "c", api.Value{}))), api.ErrTwice},
		{list(append(sized(api.MaxBytes+1).List, of(api.KindText, "\xff"))...), api.ErrUtf},
	} {
		if s, why := bin.Write(c.v); s != "" || why != c.why {
			t.Errorf("Write(%.80v) = %x, error %d", c.v, s, why)
		}
	}
}

func TestWriteLongest(t *testing.T) {
	for n := api.MaxBytes - 3; n <= api.MaxBytes; n++ {
		v := sized(n)
		s, why := bin.Write(v)
		if len(s) != n || why != api.OK {
			t.Fatalf("Write: %d bytes for %d, error %d", len(s), n, why)
		}
		if w, why := bin.Read(s); !value.Same(v, w) || why != api.OK {
			t.Errorf("Read of %d bytes: error %d", n, why)
		}
	}
	for n := api.MaxBytes + 1; n <= api.MaxBytes+3; n++ {
		if s, why := bin.Write(sized(n)); s != "" || why != api.ErrLong {
			t.Errorf("Write: %d bytes for %d, error %d", len(s), n, why)
		}
	}
}

// What would have far more bytes than there may be is refused as well, at any depth.
func TestWriteFarTooLong(t *testing.T) {
	v := of(api.KindText, xs(api.MaxText))
	for depth := range 4 {
		_, why := bin.Write(v)
		if depth == 0 && why != api.OK || depth > 0 && why != api.ErrLong {
			t.Errorf("Write at depth %d: error %d", depth, why)
		}
		v = many(api.MaxParts, v)
	}
}

func TestWriteLeavesItsArgument(t *testing.T) {
	r := rand.New(rand.NewSource(5))
	for range 300 {
		seed := r.Int63()
		v := anyRight(rand.New(rand.NewSource(seed)), 4)
		first, _ := bin.Write(v)
		second, _ := bin.Write(v)
		if first != second || !value.Same(v, anyRight(rand.New(rand.NewSource(seed)), 4)) {
			t.Fatalf("Write(%v) changed something", v)
		}
		if len(first) > 1 { // the language itself keeps texts of one byte in one place
			apart(t, first, second, v)
		}
	}
}

// Values that are alike, and no others, have texts that are alike; an empty list is one, nil or not.
func TestWriteAlike(t *testing.T) {
	r := rand.New(rand.NewSource(7))
	var all []api.Value
	for range 300 {
		all = append(all, anyRight(r, 2))
	}
	all = append(all, list(), api.Value{Kind: api.KindList, List: []api.Value{}}, doc(), api.Value{Kind: api.KindStruct, Fields: []api.Field{}, List: []api.Value{}})
	for i, a := range all {
		s, _ := bin.Write(a)
		for _, b := range all[i:] {
			if u, _ := bin.Write(b); value.Same(a, b) != (s == u) {
				t.Fatalf("%v and %v: %x and %x", a, b, s, u)
			}
		}
	}
}
