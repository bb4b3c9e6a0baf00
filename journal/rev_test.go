package journal_test

import (
	"math"
	"slices"
	"testing"

	"codicil/api"
	"codicil/journal"
)

func TestRevTextSamples(t *testing.T) {
	for s, r := range map[string]api.Rev{
		"\x06\x05\x03\x02\x04\x01t\x03\x00\x03\x00\x00":                                                                         table("t"),
		"\x06\x05\x03\x02\x04\x02\xc3\xa9\x03\x00\x03\x00\x00":                                                                  table("é"),
		"\x06\x05\x03\x04\x04\x01t\x03\x00\x03\x00\x04\x01f":                                                                    index("t", "f"),
		"\x06\x05\x03\x04\x04\x01t\x03\x00\x03\x00\x04\x00":                                                                     index("t", ""),
		"\x06\x05\x03\x06\x04\x01t\x03\x02\x03\x00\x07\x00":                                                                     put("t", 1, 0, doc()),
		"\x06\x05\x03\x06\x04\x01t\x03\x00\x03\x80\x01\x07\x01\x01a\x03\x01":                                                    put("t", 0, 64, doc("a", whole(-1))),
		"\x06\x05\x03\x08\x04\x01t\x03\x06\x03\x04\x00":                                                                         drop("t", 3, 2),
		"\x06\x05\x03\x08\x04\x01t\x03\x80\x80\x80\x80\x80\x80\x80\x80\x80\x01\x03\x80\x80\x80\x80\x80\x80\x80\x80\x80\x01\x00": drop("t", 1<<62, 1<<62),
	} {
		if got, why := journal.RevText(r); got != s || why != api.OK {
			t.Errorf("RevText(%v) = %x, error %d", r, got, why)
		}
	}
}

// revFault is something that makes a right revision wrong, in one part of it; what is mute is not to be seen in its text.
type revFault struct {
	part  string
	why   api.Errno
	mute  bool
	spoil func(r *api.Rev)
}

// revFaults are those of a kind, in the order in which they tell.
func revFaults(kind api.RevKind) []revFault {
	var out []revFault
	for _, none := range []api.RevKind{api.RevNone, api.RevCount, api.RevCount + 1, 255} {
		out = append(out, revFault{"kind", api.ErrType, false, func(r *api.Rev) { r.Kind = none }})
	}
	for _, long := range []string{"", xs(api.MaxText + 1), xs(api.MaxText) + "\xff"} {
		out = append(out, revFault{"table", api.ErrLong, false, func(r *api.Rev) { r.Table = long }})
	}
	for _, bad := range []string{"\xff", "t\xc3", "\xed\xa0\x80", xs(api.MaxText-1) + "\xff"} {
		out = append(out, revFault{"table", api.ErrUtf, false, func(r *api.Rev) { r.Table = bad }})
	}
	for _, n := range tooGreat(kind) {
		out = append(out,
			revFault{"doc", api.ErrRange, false, func(r *api.Rev) { r.Doc = n }},
			revFault{"version", api.ErrRange, false, func(r *api.Rev) { r.Version = n }})
	}
	for _, f := range wrongValues() {
		out = append(out, revFault{"value", f.why, f.mute, func(r *api.Rev) { r.Value = f.v }})
	}
	for _, v := range otherValues(kind) {
		out = append(out, revFault{"value", api.ErrType, false, func(r *api.Rev) { r.Value = v }})
	}
	for _, v := range longValues(kind) {
		out = append(out, revFault{"value", api.ErrLong, false, func(r *api.Rev) { r.Value = v }})
	}
	return append(out, revFault{"table", api.ErrLong, false, func(r *api.Rev) { r.Table = xs(api.MaxText) }})
}

func tooGreat(kind api.RevKind) []uint64 {
	l := []uint64{1<<62 + 1, 1 << 63, math.MaxUint64}
	if kind == api.RevTable || kind == api.RevIndex {
		l = append(l, 1, 1<<62)
	}
	return l
}

type wrongValue struct {
	v    api.Value
	why  api.Errno
	mute bool
}

// wrongValues are such as are not right: each is told as that, whatever its kind.
func wrongValues() []wrongValue {
	return []wrongValue{
		{api.Value{Kind: api.KindCount}, api.ErrType, false},
		{api.Value{N: 1}, api.ErrType, true},
		{api.Value{Kind: api.KindText, S: "f", B: true}, api.ErrType, true},
		{api.Value{Kind: api.KindStruct, List: []api.Value{{}}}, api.ErrType, true},
		{text(xs(api.MaxText + 1)), api.ErrLong, false},
		{doc("a", blob(xs(api.MaxText+1))), api.ErrLong, false},
		{text("\xff"), api.ErrUtf, false},
		{doc("a", text("\xff")), api.ErrUtf, false},
		{doc("\xff", api.Value{}), api.ErrUtf, false},
		{list(times(api.MaxParts+1, api.Value{})...), api.ErrMany, false},
		{doc("a", list(times(api.MaxParts+1, api.Value{})...)), api.ErrMany, false},
		{within(api.MaxDepth, doc()), api.ErrDepth, false},
		{doc("b", api.Value{}, "a", api.Value{}), api.ErrTwice, false},
	}
}

// otherValues are right ones of kinds that the revision's kind has not; some would also be too long.
func otherValues(kind api.RevKind) []api.Value {
	all := []api.Value{{}, {Kind: api.KindBool}, whole(0), text("f"), text(xs(api.MaxText)), blob("f"), list(), list(doc()), doc(), within(api.MaxDepth, api.Value{})}
	has := map[api.RevKind]api.Kind{api.RevIndex: api.KindText, api.RevPut: api.KindStruct}[kind]
	return slices.DeleteFunc(all, func(v api.Value) bool { return v.Kind == has })
}

// longValues are those with which the text is too long, or is none.
func longValues(kind api.RevKind) []api.Value {
	switch kind {
	case api.RevIndex:
		return []api.Value{text(xs(api.MaxText)), text(xs(api.MaxText - 1)), text(xs(api.MaxText - 13))}
	case api.RevPut:
		return []api.Value{
			doc("a", text(xs(api.MaxText))),
			doc("a", list(times(20, blob(xs(api.MaxText)))...)),
			within(api.MaxDepth-1, doc()),
			within(api.MaxDepth, api.Value{}),
		}
	}
	return nil
}

// rightRevs are ordinary ones, one of each kind.
func rightRevs() []api.Rev {
	return []api.Rev{table("t"), index("t", "f"), put("t", 1, 2, doc("a", whole(1))), drop("t", 1<<62, 1<<62)}
}

func TestRevTextWrong(t *testing.T) {
	for _, right := range rightRevs() {
		for _, f := range revFaults(right.Kind) {
			r := right
			f.spoil(&r)
			if s, why := journal.RevText(r); s != "" || why != f.why {
				t.Errorf("RevText(%s) = %x, error %d, not %d", show(r), s, why, f.why)
			}
		}
	}
}

// Of two faults the one that the chapter names first is told.
func TestRevTextTwiceWrong(t *testing.T) {
	for _, right := range rightRevs() {
		faults := revFaults(right.Kind)
		for i, f := range faults {
			for _, g := range faults[i+1:] {
				if f.part == g.part {
					continue
				}
				r := right
				f.spoil(&r)
				g.spoil(&r)
				if s, why := journal.RevText(r); s != "" || why != f.why {
					t.Errorf("RevText(%s) = %x, error %d, not %d", show(r), s, why, f.why)
				}
			}
		}
	}
}

func TestRevTextNumbers(t *testing.T) {
	for _, kind := range []api.RevKind{api.RevPut, api.RevDrop} {
		for _, n := range []uint64{0, 1, 63, 64, 1<<62 - 1, 1 << 62} {
			for _, m := range []uint64{0, 1, 1 << 62} {
				r := api.Rev{Kind: kind, Table: "t", Doc: n, Version: m}
				if kind == api.RevPut {
					r.Value = doc()
				}
				if s, why := journal.RevText(r); s != revBytes(r) || why != api.OK {
					t.Errorf("RevText(%v) = %x, error %d", r, s, why)
				}
			}
		}
	}
}

func TestRevTextLongest(t *testing.T) {
	for _, make := range []func(n int) api.Rev{
		func(n int) api.Rev { return table(xs(n)) },
		func(n int) api.Rev { return drop(xs(n), 1<<62, 1<<40) },
		func(n int) api.Rev { return index("t", xs(n)) },
		func(n int) api.Rev { return put("t", 5, 6, doc("a", blob(xs(n)))) },
		func(n int) api.Rev { return put("t", 5, 6, doc(xs(n), list())) },
	} {
		n := 900 + api.MaxText - len(revBytes(make(900)))
		if s, why := journal.RevText(make(n)); len(s) != api.MaxText || s != revBytes(make(n)) || why != api.OK {
			t.Errorf("RevText: %d bytes, error %d", len(s), why)
		}
		if s, why := journal.RevText(make(n + 1)); s != "" || why != api.ErrLong {
			t.Errorf("RevText of one byte more: %d bytes, error %d", len(s), why)
		}
	}
}

// A value that is as deep as may be stands too deep in the revision's list.
func TestRevTextDeepest(t *testing.T) {
	for depth := 1; depth < api.MaxDepth; depth++ {
		r := put("t", 1, 0, within(depth, api.Value{}))
		if s, why := journal.RevText(r); s != revBytes(r) || why != api.OK {
			t.Errorf("RevText at depth %d: %x, error %d", depth, s, why)
		}
	}
	if s, why := journal.RevText(put("t", 1, 0, within(api.MaxDepth, api.Value{}))); s != "" || why != api.ErrLong {
		t.Errorf("RevText at MaxDepth: %x, error %d", s, why)
	}
	if s, why := journal.RevText(put("t", 1, 0, within(1<<16, api.Value{}))); s != "" || why != api.ErrDepth {
		t.Errorf("RevText at depth 65536: %x, error %d", s, why)
	}
}

func TestRevTextEmptyLists(t *testing.T) {
	r := api.Rev{Kind: api.RevTable, Table: "t", Value: api.Value{List: []api.Value{}, Fields: []api.Field{}}}
	if s, why := journal.RevText(r); s != revBytes(table("t")) || why != api.OK {
		t.Errorf("RevText(%v) = %x, error %d", r, s, why)
	}
}
