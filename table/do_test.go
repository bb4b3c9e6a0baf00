package table_test

import (
	"math"
	"math/rand"
	"testing"

	"codicil/api"
	"codicil/table"
)

// isDone fails, if Do does not answer what the chapter says.
func isDone(t *testing.T, name string, s api.State, seq uint64, r api.Rev) (api.State, api.Errno) {
	t.Helper()
	ahead := twin(s)
	want, no := done(s, seq, r)
	got, why := table.Do(s, seq, r)
	if why != no || !sameState(got, want) {
		t.Fatalf("%s: Do(%s, %d, %s): %s, error %d, not %s, error %d", name, show(s), seq, show(r), show(got), why, show(want), no)
	}
	if !sameState(s, ahead) {
		t.Fatalf("%s: Do(%s, %d, %s) changed its state: %s", name, show(ahead), seq, show(r), show(s))
	}
	return got, why
}

// The chapter's example.
func TestExample(t *testing.T) {
	s := api.State{}
	for i, r := range []api.Rev{tableRev("t"), putRev("t", 1, 0, doc()), putRev("t", 1, 1, doc("a", whole(1))), dropRev("t", 1, 2)} {
		x, why := table.Do(s, uint64(i+1), r)
		if why != api.OK {
			t.Fatalf("Do(%v): error %d", r, why)
		}
		s = x
	}
	if l, why := table.Current(s, "t"); len(l) != 0 || why != api.OK {
		t.Errorf("Current: %v, error %d", l, why)
	}
	want := []api.Row{{Doc: 1, Version: 0, Seq: 2, Value: doc()}, {Doc: 1, Version: 1, Seq: 3, Value: doc("a", whole(1))}, {Doc: 1, Version: 2, Seq: 4, Gone: true}}
	if l, why := table.History(s, "t", 4); !sameRows(l, want) || why != api.OK {
		t.Errorf("History: %v, error %d", l, why)
	}
	if s.Seq != 4 || s.Last != 1 {
		t.Errorf("%v", s)
	}
}

// What each kind does, written out.
func TestDoEachKind(t *testing.T) {
	for i, x := range []struct {
		rev  api.Rev
		with func(s *api.State)
	}{
		{tableRev("w"), func(s *api.State) { s.Tables = append(s.Tables, api.Table{Name: "w"}) }},
		{tableRev("T"), func(s *api.State) { s.Tables = append(s.Tables, api.Table{Name: "T"}) }},
		{indexRev("t", "c"), func(s *api.State) { s.Tables[0].Indexes = []string{"a", "b", "c"} }},
		{indexRev("t", "A"), func(s *api.State) { s.Tables[0].Indexes = []string{"a", "b", "A"} }},
		{indexRev("ü", "a"), func(s *api.State) { s.Tables[1].Indexes = []string{"a"} }},
		{putRev("t", 10, 0, doc("c", whole(1))), func(s *api.State) {
			s.Last = 10
			s.Tables[0].Docs = append(s.Tables[0].Docs, api.Doc{Id: 10, Versions: []api.Version{{Seq: 8, Value: doc("c", whole(1))}}})
		}},
		{putRev("v", 10, 0, doc()), func(s *api.State) {
			s.Last = 10
			s.Tables[2].Docs = []api.Doc{{Id: 10, Versions: []api.Version{{Seq: 8, Value: doc()}}}}
		}},
		{putRev("t", 1, 2, doc("c", whole(1))), func(s *api.State) {
			d := &s.Tables[0].Docs[0]
			d.Versions = append(d.Versions, api.Version{Seq: 8, Value: doc("c", whole(1))})
		}},
		{putRev("ü", 4, 1, doc()), func(s *api.State) {
			d := &s.Tables[1].Docs[1]
			d.Versions = append(d.Versions, api.Version{Seq: 8, Value: doc()})
		}},
		{dropRev("t", 6, 1), func(s *api.State) {
			d := &s.Tables[0].Docs[2]
			d.Versions = append(d.Versions, api.Version{Seq: 8, Gone: true})
		}},
	} {
		want := small()
		x.with(&want)
		want.Seq = 8
		if got, why := table.Do(small(), 8, x.rev); why != api.OK || !sameState(got, want) {
			t.Errorf("%d: %s, error %d", i, show(got), why)
		}
		isDone(t, "each kind", small(), 8, x.rev)
	}
}

// 8.1: seq below Seq, 0, at Seq, 2^62 and one more.
func TestDoSeqs(t *testing.T) {
	for _, own := range []uint64{0, 1, 5, 1<<62 - 1, 1 << 62} {
		s := api.State{Seq: own, Tables: []api.Table{{Name: "t"}}}
		for _, seq := range []uint64{0, 1, 4, 5, 6, own - 1, own, own + 1, 1<<62 - 1, 1 << 62, 1<<62 + 1, math.MaxUint64} {
			for _, r := range []api.Rev{tableRev("u"), indexRev("t", "a"), putRev("t", 1, 0, doc()), {}} {
				_, why := isDone(t, "seqs", s, seq, r)
				if bad := seq < own || seq == 0 || seq > 1<<62; bad && why != api.ErrRange {
					t.Errorf("Do behind %d with %d: error %d", own, seq, why)
				}
			}
		}
	}
}

// fault is a reason for which a revision is not done.
type fault struct {
	name string
	why  api.Errno
	with func(s *api.State, seq *uint64, r *api.Rev)
}

// commonFaults are those of all kinds, in the chapter's order.
func commonFaults() []fault {
	return []fault{
		{"state", api.ErrState, func(s *api.State, _ *uint64, _ *api.Rev) { s.Last = 1<<62 + 1 }},
		{"seq below Seq", api.ErrRange, func(s *api.State, seq *uint64, _ *api.Rev) { s.Seq, *seq = 9, 8 }},
		{"seq above all", api.ErrRange, func(_ *api.State, seq *uint64, _ *api.Rev) { *seq = 1<<62 + 1 }},
		{"empty table", api.ErrLong, func(_ *api.State, _ *uint64, r *api.Rev) { r.Table = "" }},
		{"long table", api.ErrLong, func(_ *api.State, _ *uint64, r *api.Rev) { r.Table = xs(api.MaxText + 1) }},
		{"table without UTF-8", api.ErrUtf, func(_ *api.State, _ *uint64, r *api.Rev) { r.Table = "\xff" }},
		{"great Doc", api.ErrRange, func(_ *api.State, _ *uint64, r *api.Rev) { r.Doc = 1<<62 + 1 }},
		{"great Version", api.ErrRange, func(_ *api.State, _ *uint64, r *api.Rev) { r.Version = 1<<62 + 1 }},
		{"wrong value", api.ErrUtf, func(_ *api.State, _ *uint64, r *api.Rev) { r.Value = text("\xff") }},
		{"value of another kind", api.ErrType, func(_ *api.State, _ *uint64, r *api.Rev) { r.Value = whole(1) }},
		{"long text", api.ErrLong, func(_ *api.State, _ *uint64, r *api.Rev) { r.Table = xs(api.MaxText - 3) }},
	}
}

// cases are revisions that are done behind small, and their own faults, in the chapter's order.
func cases() []struct {
	rev    api.Rev
	faults []fault
} {
	noTable := fault{"no table", api.ErrName, func(_ *api.State, _ *uint64, r *api.Rev) { r.Table = "w" }}
	unknown := fault{"unknown", api.ErrUnknown, func(_ *api.State, _ *uint64, r *api.Rev) { r.Doc = 8 }}
	elsewhere := fault{"in another table", api.ErrUnknown, func(_ *api.State, _ *uint64, r *api.Rev) { r.Doc = 4 }}
	gone := fault{"gone", api.ErrState, func(s *api.State, _ *uint64, r *api.Rev) { r.Doc = 3; r.Version = 3 }}
	early := fault{"early version", api.ErrRange, func(_ *api.State, _ *uint64, r *api.Rev) { r.Version = 1 }}
	late := fault{"late version", api.ErrRange, func(_ *api.State, _ *uint64, r *api.Rev) { r.Version = 4 }}
	return []struct {
		rev    api.Rev
		faults []fault
	}{
		{tableRev("new"), []fault{
			{"there already", api.ErrTwice, func(_ *api.State, _ *uint64, r *api.Rev) { r.Table = "v" }},
			{"full", api.ErrFull, func(s *api.State, _ *uint64, _ *api.Rev) { s.Tables = append(s.Tables, tables(api.MaxTables-3)...) }},
		}},
		{indexRev("t", "new"), []fault{
			noTable,
			{"empty field", api.ErrLong, func(_ *api.State, _ *uint64, r *api.Rev) { r.Value.S = "" }},
			{"there already", api.ErrTwice, func(_ *api.State, _ *uint64, r *api.Rev) { r.Value.S = "b" }},
			{"full", api.ErrFull, func(s *api.State, _ *uint64, _ *api.Rev) {
				s.Tables[0].Indexes = append(s.Tables[0].Indexes, names(api.MaxFields-2)...)
			}},
		}},
		{putRev("t", 10, 0, doc("a", whole(1))), []fault{
			noTable,
			{"Doc is Last", api.ErrRange, func(s *api.State, _ *uint64, r *api.Rev) { r.Doc = s.Last }},
			{"Doc is two more", api.ErrRange, func(s *api.State, _ *uint64, r *api.Rev) { r.Doc = s.Last + 2 }},
			{"Doc is there", api.ErrRange, func(_ *api.State, _ *uint64, r *api.Rev) { r.Doc = 1 }},
			{"Doc is 0", api.ErrRange, func(_ *api.State, _ *uint64, r *api.Rev) { r.Doc = 0 }},
			{"full", api.ErrFull, func(s *api.State, _ *uint64, r *api.Rev) {
				s.Tables[0].Docs = docs(api.MaxDocs, 11)
				s.Last = 10 + api.MaxDocs
				r.Doc = s.Last + 1
			}},
		}},
		{putRev("t", 1, 2, doc("a", whole(1))), []fault{noTable, unknown, elsewhere, gone, early, late}},
		{dropRev("t", 1, 2), []fault{noTable, unknown, elsewhere, gone, early, late, {"version 0", api.ErrRange, func(_ *api.State, _ *uint64, r *api.Rev) { r.Version = 0 }}}},
	}
}

// 8.1, P3: each error alone, and two at once, of which the first one is told.
func TestDoFaults(t *testing.T) {
	for _, c := range cases() {
		if _, why := isDone(t, "right", small(), 8, c.rev); why != api.OK {
			t.Fatalf("Do(%s): error %d", show(c.rev), why)
		}
		all := append(commonFaults(), c.faults...)
		for i, x := range all {
			s, seq, r := small(), uint64(8), c.rev
			x.with(&s, &seq, &r)
			if _, why := isDone(t, x.name, s, seq, r); why != x.why {
				t.Errorf("%s of kind %d: error %d, not %d", x.name, r.Kind, why, x.why)
			}
			for _, y := range all[i+1:] {
				s, seq, r := small(), uint64(8), c.rev
				y.with(&s, &seq, &r)
				x.with(&s, &seq, &r)
				if _, why := isDone(t, x.name+", "+y.name, s, seq, r); why != x.why {
					t.Errorf("%s, %s of kind %d: error %d, not %d", x.name, y.name, c.rev.Kind, why, x.why)
				}
			}
		}
	}
}

// A document that is gone stays so, and its version is not looked at.
func TestDoGone(t *testing.T) {
	for version := range uint64(6) {
		for _, r := range []api.Rev{putRev("t", 3, version+1, doc()), dropRev("t", 3, version)} {
			if _, why := isDone(t, "gone", small(), 5, r); why != api.ErrState {
				t.Errorf("Do(%v): error %d", r, why)
			}
		}
	}
}

// 8.1: up to each limit, and one more.
func TestDoLimits(t *testing.T) {
	s := api.State{}
	grow := func(r api.Rev, want api.Errno) {
		t.Helper()
		x, why := isDone(t, "limits", s, 1, r)
		if why != want {
			t.Fatalf("Do(%s): error %d, not %d", show(r), why, want)
		}
		if why == api.OK {
			s = x
		}
	}
	for _, name := range names(api.MaxTables) {
		grow(tableRev(name), api.OK)
	}
	grow(tableRev("one more"), api.ErrFull)
	for _, name := range names(api.MaxFields) {
		grow(indexRev("n3", name), api.OK)
	}
	grow(indexRev("n3", "one more"), api.ErrFull)
	grow(indexRev("n4", "one more"), api.OK)
	for i := range uint64(api.MaxDocs) {
		grow(putRev("n5", i+1, 0, doc()), api.OK)
	}
	grow(putRev("n5", api.MaxDocs+1, 0, doc()), api.ErrFull)
	grow(putRev("n6", api.MaxDocs+1, 0, doc()), api.OK)
	grow(dropRev("n5", 1, 1), api.OK)
	grow(putRev("n5", api.MaxDocs+2, 0, doc()), api.ErrFull)
	grow(putRev("n5", 2, 1, doc("a", whole(1))), api.OK)
	if why := table.Check(s); why != api.OK {
		t.Errorf("Check: error %d", why)
	}
}

// 8.1: the last Ids that there may be.
func TestDoLastId(t *testing.T) {
	s := api.State{Seq: 1, Last: 1<<62 - 1, Tables: []api.Table{{Name: "t"}}}
	x, why := isDone(t, "last Id", s, 1, putRev("t", 1<<62, 0, doc()))
	if why != api.OK || x.Last != 1<<62 {
		t.Fatalf("%v, error %d", x, why)
	}
	for _, id := range []uint64{0, 1, 1 << 62, 1<<62 + 1, math.MaxUint64} {
		if _, why := isDone(t, "one more", x, 1, putRev("t", id, 0, doc())); why != api.ErrRange {
			t.Errorf("Do of %d: error %d", id, why)
		}
	}
}

// 8.1: all small revisions behind all states that a few of them make.
func TestDoAllSmall(t *testing.T) {
	var revs []api.Rev
	for kind := range api.RevCount + 1 {
		for _, name := range []string{"t", "u", ""} {
			for id := range uint64(4) {
				for version := range uint64(3) {
					for _, v := range []api.Value{{}, text("a"), text(""), doc(), doc("a", whole(1))} {
						revs = append(revs, api.Rev{Kind: kind, Table: name, Doc: id, Version: version, Value: v})
					}
				}
			}
		}
	}
	r := rand.New(rand.NewSource(82))
	states := []api.State{{}}
	for i := 0; i < len(states); i++ {
		s := states[i]
		var next []api.State
		for _, rev := range revs {
			for _, seq := range []uint64{0, s.Seq - 1, s.Seq, s.Seq + 1} {
				if x, why := isDone(t, "small", s, seq, rev); why == api.OK {
					next = append(next, x)
				}
			}
		}
		r.Shuffle(len(next), func(i, j int) { next[i], next[j] = next[j], next[i] })
		if i < 40 {
			states = append(states, next[:min(2, len(next))]...)
		}
	}
}

// 8.1: any revisions behind any hand-made states.
func TestDoAny(t *testing.T) {
	r := rand.New(rand.NewSource(83))
	oks := 0
	for range 20000 {
		s := anyState(r)
		if r.Intn(10) == 0 {
			spoil(r, &s)
		}
		if s.Last > 1<<40 {
			continue
		}
		if _, why := isDone(t, "any", s, s.Seq+uint64(r.Intn(4))-1, anyRev(r, s)); why == api.OK {
			oks++
		}
	}
	if oks < 2000 {
		t.Errorf("%d were done", oks)
	}
}
