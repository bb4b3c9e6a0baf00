package view_test

import (
	"math"
	"slices"
	"testing"

	"codicil/api"
	"codicil/view"
)

// isRight fails, unless a view is right, and what is there now is that state.
func isRight(t *testing.T, what string, v api.View, want api.State) {
	t.Helper()
	ahead := twin(v)
	if why := view.Check(v); why != api.OK {
		t.Errorf("%s: Check: error %d", what, why)
	}
	if s, why := view.Now(v); why != api.OK || !same(s, want) {
		t.Errorf("%s: Now: %s, error %d, not %s", what, show(s), why, show(want))
	}
	if !same(v, ahead) {
		t.Errorf("%s: changed: %s", what, show(v))
	}
}

// isWrong fails, unless all calls say that a view is not right, whatever else is handed in, and nothing else.
func isWrong(t *testing.T, what string, v api.View) {
	t.Helper()
	ahead := twin(v)
	if why := view.Check(v); why != api.ErrState {
		t.Errorf("%s: Check: error %d", what, why)
	}
	if s, why := view.Now(v); why != api.ErrState || !same(s, api.State{}) {
		t.Errorf("%s: Now: %s, error %d", what, show(s), why)
	}
	for _, text := range []string{"SELECT * FROM t", "CREATE TABLE more", "no statement", "INSERT INTO t 5", "SELECT * FROM nothing", xs(api.MaxBytes + 1), "'\xff'"} {
		for _, fuel := range []int{-1, 0, 100, api.MaxFuel + 1} {
			if got := exec(v, text, fuel); !same(got, answer{Why: api.ErrState}) {
				t.Errorf("%s: Exec(%s, %d): %s", what, show(text), fuel, show(got))
			}
		}
	}
	if !same(v, ahead) {
		t.Errorf("%s: changed: %s", what, show(v))
	}
}

// 15.1: a view without Revs is its Base.
func TestBase(t *testing.T) {
	isRight(t, "nothing", api.View{}, api.State{})
	isRight(t, "empty lists", api.View{Base: api.State{Tables: []api.Table{}}, Revs: []api.Rev{}}, api.State{})
	v := small()
	v.Revs = nil
	isRight(t, "small", v, v.Base)
}

// 15.1: Revs are done one by one, on what those ahead of them made, with one more than Base's Seq.
func TestRevs(t *testing.T) {
	v := small()
	v.Revs = append(v.Revs,
		tableRev("new"), indexRev("new", "f"), putRev("new", 22, 0, doc()), putRev("new", 22, 1, doc("f", number(1))), dropRev("new", 22, 2),
		putRev("w", 23, 0, doc("a", number(1))), indexRev("t", "c"), dropRev("t", 21, 1))
	want := twin(v.Base)
	want.Seq, want.Last = 10, 23
	of := func(table, doc int) *[]api.Version { return &want.Tables[table].Docs[doc].Versions }
	*of(0, 1) = append(*of(0, 1), api.Version{Seq: 10, Value: doc("a", number(4), "b", flag(true))})
	*of(1, 0) = append(*of(1, 0), api.Version{Seq: 10, Gone: true})
	want.Tables[0].Indexes = append(want.Tables[0].Indexes, "c")
	want.Tables[0].Docs = append(want.Tables[0].Docs, api.Doc{Id: 21, Versions: []api.Version{{Seq: 10, Value: doc("a", number(1), "b", number(7))}, {Seq: 10, Gone: true}}})
	want.Tables[2].Docs = []api.Doc{{Id: 23, Versions: []api.Version{{Seq: 10, Value: doc("a", number(1))}}}}
	want.Tables = append(want.Tables, api.Table{Name: "new", Indexes: []string{"f"}, Docs: []api.Doc{{Id: 22, Versions: []api.Version{{Seq: 10, Value: doc()}, {Seq: 10, Value: doc("f", number(1))}, {Seq: 10, Gone: true}}}}})
	isRight(t, "all kinds", v, want)
	isRight(t, "from nothing", api.View{Revs: []api.Rev{tableRev("t")}}, api.State{Seq: 1, Tables: []api.Table{{Name: "t"}}})
}

// 15.1: a Base that is not right.
func TestWrongBase(t *testing.T) {
	for what, with := range map[string]func(s *api.State){
		"Seq beyond":         func(s *api.State) { s.Seq = 1<<62 + 1 },
		"greatest Seq":       func(s *api.State) { s.Seq = math.MaxUint64 },
		"Last beyond":        func(s *api.State) { s.Last = 1<<62 + 1 },
		"Last below an Id":   func(s *api.State) { s.Last = 19 },
		"Seq below one's":    func(s *api.State) { s.Seq = 8 },
		"many tables":        func(s *api.State) { s.Tables = many(17, func(i int) api.Table { return api.Table{Name: name(i)} }) },
		"a name twice":       func(s *api.State) { s.Tables[1].Name = "t" },
		"no name":            func(s *api.State) { s.Tables[1].Name = "" },
		"no UTF-8":           func(s *api.State) { s.Tables[1].Name = "\xff" },
		"many indexes":       func(s *api.State) { s.Tables[2].Indexes = many(9, name) },
		"an index twice":     func(s *api.State) { s.Tables[2].Indexes = []string{"a", "a"} },
		"Ids that fall":      func(s *api.State) { slices.Reverse(s.Tables[0].Docs) },
		"an Id twice":        func(s *api.State) { s.Tables[1].Docs[0].Id = 2 },
		"no version":         func(s *api.State) { s.Tables[0].Docs[0].Versions = nil },
		"gone too early":     func(s *api.State) { slices.Reverse(s.Tables[0].Docs[3].Versions) },
		"no struct":          func(s *api.State) { s.Tables[0].Docs[0].Versions[0].Value = number(1) },
		"a value not right":  func(s *api.State) { s.Tables[0].Docs[0].Versions[0].Value.Fields[0].Value.S = "x" },
		"a value too deep":   func(s *api.State) { s.Tables[0].Docs[0].Versions[0].Value = doc("a", nested(65000, null())) },
		"a value that is so": func(s *api.State) { s.Tables[0].Docs[3].Versions[1].Value = doc() },
	} {
		v := small()
		with(&v.Base)
		isWrong(t, what, v)
		v.Revs = nil
		isWrong(t, what, v)
	}
}

// 15.1: Base's Seq is below 2^62, Revs or not; the last block is that of 2^62.
func TestGreatSeq(t *testing.T) {
	for _, revs := range [][]api.Rev{nil, {tableRev("u")}} {
		for _, seq := range []uint64{1 << 62, 1<<62 + 1, math.MaxUint64} {
			isWrong(t, "Seq", api.View{Base: api.State{Seq: seq}, Revs: revs})
		}
		for _, seq := range []uint64{1<<62 - 1, 1<<62 - 2} {
			v := api.View{Base: api.State{Seq: seq}, Revs: revs}
			isRight(t, "Seq", v, behind(t, v.Base, seq+1, revs...))
			w := doesAll(t, v, "CREATE TABLE t", "INSERT INTO t {a: 1}", "UPDATE t SET a = 2")
			if s, _ := view.Now(w); s.Seq != seq+1 || s.Tables[len(s.Tables)-1].Docs[0].Versions[1].Seq != seq+1 {
				t.Errorf("behind %d: %s", seq, show(s))
			}
		}
	}
}

// 15.1: each way in which a revision can't be done, as the first one, behind others, ahead of others.
func TestRevsThatCantBeDone(t *testing.T) {
	v := small()
	for what, r := range map[string]api.Rev{
		"no kind":            {},
		"another kind":       {Kind: api.RevCount, Table: "t"},
		"no table's name":    tableRev(""),
		"a long one":         tableRev(xs(1025)),
		"no UTF-8":           tableRev("\xff"),
		"a table twice":      tableRev("t"),
		"a table with a Doc": {Kind: api.RevTable, Table: "new", Doc: 1},
		"with a Value":       {Kind: api.RevTable, Table: "new", Value: number(1)},
		"an index twice":     indexRev("t", "a"),
		"of no table":        indexRev("nothing", "a"),
		"without a name":     indexRev("t", ""),
		"of no text":         {Kind: api.RevIndex, Table: "t", Value: number(1)},
		"put into no table":  putRev("nothing", 22, 0, doc()),
		"an Id too low":      putRev("t", 21, 0, doc()),
		"an Id too great":    putRev("t", 23, 0, doc()),
		"no such document":   putRev("t", 1, 1, doc()),
		"another Version":    putRev("t", 2, 2, doc()),
		"one behind it":      putRev("t", 3, 2, doc()),
		"one that is gone":   putRev("t", 6, 2, doc()),
		"no struct":          putRev("t", 2, 1, all()),
		"a wrong value":      putRev("t", 2, 1, doc("b", null(), "a", null())),
		"a long one's text":  putRev("t", 2, 1, doc("a", word(xs(1024)))),
		"a deep one's text":  putRev("t", 2, 1, doc("a", nested(5, null()))),
		"dropped twice":      dropRev("u", 1, 2),
		"dropped of none":    dropRev("t", 99, 1),
		"dropped too early":  dropRev("t", 2, 0),
		"with what it was":   {Kind: api.RevDrop, Table: "t", Doc: 2, Version: 1, Value: doc()},
		"great Doc":          putRev("t", math.MaxUint64, 0, doc()),
		"great Version":      dropRev("t", 2, math.MaxUint64),
	} {
		w := v
		w.Revs = append(slices.Clone(v.Revs), r)
		isWrong(t, what, w)
		w.Revs = append(w.Revs, tableRev("more"))
		isWrong(t, what, w)
		w.Revs = append([]api.Rev{tableRev("x")}, w.Revs...)
		isWrong(t, what, w)
	}
	isWrong(t, "no state for it", api.View{Revs: []api.Rev{putRev("t", 1, 0, doc())}})
	turned := small()
	turned.Revs = []api.Rev{indexRev("new", "a"), tableRev("new")}
	isWrong(t, "in the wrong order", turned)
}

// 15.1: MaxRevs Revs, and one more.
func TestManyRevs(t *testing.T) {
	puts := many(api.MaxRevs+1, func(i int) api.Rev { return putRev("t", uint64(i+1), 0, doc("a", number(int64(i)))) })
	v := over(nil)
	v.Revs = puts[:api.MaxRevs]
	isRight(t, "MaxRevs", v, behind(t, v.Base, 2, v.Revs...))
	v.Revs = puts
	isWrong(t, "one more", v)
	isWrong(t, "very many", api.View{Revs: make([]api.Rev, 1<<20)})
	v.Revs = many(api.MaxRevs+1, func(i int) api.Rev { return putRev("t", 1, uint64(i), doc()) })
	isWrong(t, "one more of one document", v)
	v.Revs = v.Revs[:api.MaxRevs]
	isRight(t, "of one document", v, behind(t, v.Base, 2, v.Revs...))
}
