package table_test

import (
	"math"
	"math/rand"
	"slices"
	"testing"

	"codicil/api"
	"codicil/table"
)

// asked fails, if Current, History or Lookup does not answer what the chapter says.
func asked(t *testing.T, s api.State, name string, bounds []api.Bound) {
	t.Helper()
	if l, why := table.Current(s, name); why != api.OK || !sameRows(l, currentOf(s, name)) {
		t.Fatalf("Current(%s, %q): %s, error %d", show(s), name, show(l), why)
	}
	for _, upto := range []uint64{0, 1, 2, 3, 4, 5, 6, s.Seq, s.Seq + 1, 1 << 62, math.MaxUint64} {
		if l, why := table.History(s, name, upto); why != api.OK || !sameRows(l, historyOf(s, name, upto)) {
			t.Fatalf("History(%s, %q, %d): %s, error %d", show(s), name, upto, show(l), why)
		}
	}
	for _, field := range s.Tables[tableAt(s, name)].Indexes {
		for _, low := range bounds {
			for _, high := range bounds {
				if l, why := table.Lookup(s, name, field, low, high); why != api.OK || !slices.Equal(l, lookedUp(s, name, field, low, high)) {
					t.Fatalf("Lookup(%s, %q, %q, %v, %v): %v, error %d", show(s), name, field, low, high, l, why)
				}
			}
		}
	}
}

// 8.3, written out.
func TestAskSmall(t *testing.T) {
	s := small()
	want := []api.Row{
		{Doc: 1, Version: 1, Seq: 3, Value: doc("a", whole(2), "b", text("x"))},
		{Doc: 6, Version: 0, Seq: 5, Value: doc("a", api.Value{})},
		{Doc: 7, Version: 1, Seq: 5, Value: doc("a", whole(2))},
	}
	if l, why := table.Current(s, "t"); why != api.OK || !sameRows(l, want) {
		t.Errorf("Current: %v, error %d", l, why)
	}
	if l, why := table.Current(s, "v"); why != api.OK || len(l) != 0 {
		t.Errorf("Current of a table without documents: %v, error %d", l, why)
	}
	want = []api.Row{
		{Doc: 1, Version: 0, Seq: 1, Value: doc("a", whole(7))},
		{Doc: 1, Version: 1, Seq: 3, Value: doc("a", whole(2), "b", text("x"))},
		{Doc: 3, Version: 0, Seq: 2, Value: doc("a", whole(2))},
		{Doc: 3, Version: 1, Seq: 2, Value: doc("a", whole(1))},
		{Doc: 3, Version: 2, Seq: 4, Gone: true},
	}
	for upto, rows := range [][]api.Row{nil, want[:1], {want[0], want[2], want[3]}, want[:4], want} {
		if l, why := table.History(s, "t", uint64(upto)); why != api.OK || !sameRows(l, rows) {
			t.Errorf("History up to %d: %v, error %d", upto, l, why)
		}
	}
	for _, x := range []struct {
		field     string
		low, high api.Bound
		want      []uint64
	}{
		{"a", api.Bound{}, api.Bound{}, []uint64{6, 1, 7}},
		{"a", from(api.Value{}), from(api.Value{}), []uint64{6}},
		{"a", above(api.Value{}), api.Bound{}, []uint64{1, 7}},
		{"a", api.Bound{}, above(whole(2)), []uint64{6}},
		{"a", api.Bound{}, from(whole(2)), []uint64{6, 1, 7}},
		{"a", from(whole(2)), from(whole(2)), []uint64{1, 7}},
		{"a", from(whole(3)), from(whole(1)), nil},
		{"a", from(whole(7)), api.Bound{}, nil},
		{"b", api.Bound{}, api.Bound{}, []uint64{1}},
		{"b", from(whole(2)), from(whole(2)), nil},
	} {
		if l, why := table.Lookup(s, "t", x.field, x.low, x.high); why != api.OK || !slices.Equal(l, x.want) {
			t.Errorf("Lookup(%q, %v, %v): %v, error %d", x.field, x.low, x.high, l, why)
		}
	}
	if l, why := table.Lookup(s, "v", "a", api.Bound{}, api.Bound{}); why != api.OK || len(l) != 0 {
		t.Errorf("Lookup in a table without documents: %v, error %d", l, why)
	}
}

// 8.3: tables and indexes that are not there, whatever the bounds are.
func TestAskNothing(t *testing.T) {
	s := small()
	wrong := from(text("\xff"))
	for _, name := range []string{"", "T", "t ", "w", "a", "\xff", xs(api.MaxText + 1)} {
		if l, why := table.Current(s, name); why != api.ErrName || len(l) != 0 {
			t.Errorf("Current(%q): %v, error %d", name, l, why)
		}
		if l, why := table.History(s, name, 5); why != api.ErrName || len(l) != 0 {
			t.Errorf("History(%q): %v, error %d", name, l, why)
		}
		for _, low := range []api.Bound{{}, wrong} {
			if l, why := table.Lookup(s, name, "a", low, low); why != api.ErrName || len(l) != 0 {
				t.Errorf("Lookup(%q): %v, error %d", name, l, why)
			}
		}
	}
	for _, x := range [][2]string{{"t", "c"}, {"t", ""}, {"t", "A"}, {"ü", "a"}, {"v", "b"}, {"t", "t"}} {
		for _, low := range []api.Bound{{}, wrong} {
			if l, why := table.Lookup(s, x[0], x[1], low, low); why != api.ErrName || len(l) != 0 {
				t.Errorf("Lookup(%q): %v, error %d", x, l, why)
			}
		}
	}
}

// 8.3: value.Check's error of low's Key, then of high's; a Key of a bound without Has is not looked at.
func TestLookupWrongKeys(t *testing.T) {
	wrongs := []struct {
		key api.Value
		why api.Errno
	}{
		{api.Value{Kind: 99}, api.ErrType},
		{api.Value{N: 1}, api.ErrType},
		{text(xs(api.MaxText + 1)), api.ErrLong},
		{text("\xff"), api.ErrUtf},
		{api.Value{Kind: api.KindList, List: make([]api.Value, api.MaxParts+1)}, api.ErrMany},
		{within(api.MaxDepth+1, whole(1)), api.ErrDepth},
		{doc("a", whole(1), "a", whole(1)), api.ErrTwice},
	}
	s := small()
	for _, name := range []string{"t", "v"} {
		all, _ := table.Lookup(s, name, "a", api.Bound{}, api.Bound{})
		for _, x := range wrongs {
			for _, right := range []api.Bound{{}, from(whole(2)), {Key: text("\xff")}} {
				if l, why := table.Lookup(s, name, "a", from(x.key), right); why != x.why || len(l) != 0 {
					t.Errorf("low %s: %v, error %d, not %d", show(x.key), l, why, x.why)
				}
				if l, why := table.Lookup(s, name, "a", right, above(x.key)); why != x.why || len(l) != 0 {
					t.Errorf("high %s: %v, error %d, not %d", show(x.key), l, why, x.why)
				}
			}
			for _, y := range wrongs {
				if l, why := table.Lookup(s, name, "a", above(x.key), from(y.key)); why != x.why || len(l) != 0 {
					t.Errorf("low %s, high %s: %v, error %d, not %d", show(x.key), show(y.key), l, why, x.why)
				}
			}
			if l, why := table.Lookup(s, name, "a", api.Bound{Key: x.key}, api.Bound{Open: true, Key: x.key}); why != api.OK || !slices.Equal(l, all) {
				t.Errorf("keys %s without Has: %v, error %d", show(x.key), l, why)
			}
		}
	}
}

// 8.3: of a document just the field at the top counts, and just that of its last version.
func TestLookupFields(t *testing.T) {
	state := func(l ...api.Value) api.State {
		s := api.State{Seq: 1, Last: 1, Tables: []api.Table{{Name: "t", Indexes: []string{"a", "0"}, Docs: []api.Doc{{Id: 1}}}}}
		for _, v := range l {
			s.Tables[0].Docs[0].Versions = append(s.Tables[0].Docs[0].Versions, api.Version{Seq: 1, Value: v, Gone: v.Kind == api.KindNull})
		}
		return s
	}
	for i, x := range []struct {
		s     api.State
		field string
		want  int
	}{
		{state(doc("a", whole(1))), "a", 1},
		{state(doc("b", doc("a", whole(1)))), "a", 0},
		{state(doc("b", whole(1))), "a", 0},
		{state(doc()), "a", 0},
		{state(doc("a", doc("a", whole(1)))), "a", 1},
		{state(doc("a", whole(1)), doc()), "a", 0},
		{state(doc(), doc("a", whole(1))), "a", 1},
		{state(doc("a", whole(1)), api.Value{}), "a", 0},
		{state(doc("0", whole(1))), "0", 1},
		{state(doc("b", list(whole(1)))), "0", 0},
		{state(within(api.MaxDepth, whole(1))), "a", 1},
	} {
		if l, why := table.Lookup(x.s, "t", x.field, api.Bound{}, api.Bound{}); why != api.OK || len(l) != x.want {
			t.Errorf("%d: %v, error %d", i, l, why)
		}
	}
}

// 8.3: any hand-made states, with each kind of bound.
func TestAskAny(t *testing.T) {
	r := rand.New(rand.NewSource(84))
	for range 1500 {
		s := anyState(r)
		bounds := []api.Bound{{}, {Open: true, Key: text("\xff")}, from(anyKey(r)), above(anyKey(r)), from(whole(1)), above(whole(1))}
		for _, x := range s.Tables {
			asked(t, s, x.Name, bounds)
		}
	}
	for _, x := range rightChanges() {
		s := small()
		x.with(&s)
		for _, tab := range s.Tables {
			asked(t, s, tab.Name, []api.Bound{{}, from(whole(2)), above(whole(2)), from(text("x"))})
		}
	}
}

// 8.3: the most documents, all under one key and each under its own.
func TestLookupMost(t *testing.T) {
	for _, keys := range []int64{1, 3, api.MaxDocs} {
		l := docs(api.MaxDocs, 1)
		for i := range l {
			l[i].Versions[0].Value = doc("a", whole(int64(i)*7%keys))
		}
		s := api.State{Seq: 1, Last: api.MaxDocs, Tables: []api.Table{{Name: "t", Indexes: []string{"a"}, Docs: l}}}
		asked(t, s, "t", []api.Bound{{}, from(whole(0)), above(whole(0)), from(whole(100)), above(whole(200))})
		if ids, _ := table.Lookup(s, "t", "a", api.Bound{}, api.Bound{}); len(ids) != api.MaxDocs {
			t.Errorf("%d documents", len(ids))
		}
	}
}
