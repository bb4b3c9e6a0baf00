package table_test

import (
	"math"
	"math/rand"
	"testing"

	"codicil/api"
	"codicil/table"
)

// named is a state, or something that is done with one.
type named struct {
	name string
	with func(s *api.State)
}

// rightChanges are those behind which the small state is right: the edges.
func rightChanges() []named {
	return []named{
		{"nothing", func(s *api.State) {}},
		{"no tables", func(s *api.State) { s.Tables = nil }},
		{"an empty list", func(s *api.State) { s.Tables = []api.Table{} }},
		{"empty lists in a table", func(s *api.State) {
			s.Tables[2] = api.Table{Name: "v", Indexes: []string{}, Docs: make([]api.Doc, 0, 2)}
		}},
		{"greatest Seq", func(s *api.State) { s.Seq = 1 << 62 }},
		{"greatest Last", func(s *api.State) { s.Last = 1 << 62 }},
		{"greatest Seq of a version", func(s *api.State) { s.Seq = 1 << 62; s.Tables[0].Docs[0].Versions[1].Seq = 1 << 62 }},
		{"greatest Id", func(s *api.State) { s.Last = 1 << 62; s.Tables[0].Docs[3].Id = 1 << 62 }},
		{"the last Id", func(s *api.State) { s.Tables[1].Docs[1].Id = 9 }},
		{"just the last Id", func(s *api.State) { s.Last = 7 }},
		{"Seq 0", func(s *api.State) { s.Seq = 0; s.Tables[0].Docs = nil; s.Tables[1].Docs = nil }},
		{"Last 0", func(s *api.State) { s.Last = 0; s.Tables[0].Docs = nil; s.Tables[1].Docs = nil }},
		{"shortest name", func(s *api.State) { s.Tables[0].Name = "\x00" }},
		{"longest name", func(s *api.State) { s.Tables[0].Name = xs(api.MaxText) }},
		{"shortest field", func(s *api.State) { s.Tables[0].Indexes[0] = "\x00" }},
		{"longest field", func(s *api.State) { s.Tables[0].Indexes[0] = xs(api.MaxText) }},
		{"a field's name as a table's", func(s *api.State) { s.Tables[0].Indexes[0] = "t" }},
		{"names that fall", func(s *api.State) { s.Tables[0].Name = "z" }},
		{"fields that fall", func(s *api.State) { s.Tables[0].Indexes[0] = "z" }},
		{"most tables", func(s *api.State) { s.Tables = tables(api.MaxTables) }},
		{"most indexes", func(s *api.State) { s.Tables[0].Indexes = names(api.MaxFields) }},
		{"most documents", func(s *api.State) { s.Last = 5000; s.Tables[0].Docs = docs(api.MaxDocs, 10) }},
		{"versions of one block", func(s *api.State) { s.Tables[0].Docs[1].Versions[2].Seq = 2 }},
		{"a Gone one alone", func(s *api.State) { s.Tables[0].Docs[0].Versions = []api.Version{{Seq: 1, Gone: true}} }},
		{"a Gone one with empty lists", func(s *api.State) {
			s.Tables[0].Docs[1].Versions[2].Value = api.Value{List: []api.Value{}, Fields: []api.Field{}}
		}},
		{"deepest value", func(s *api.State) { s.Tables[0].Docs[0].Versions[0].Value = within(api.MaxDepth, whole(1)) }},
		{"longest text", func(s *api.State) { s.Tables[0].Docs[0].Versions[0].Value = doc("a", text(xs(api.MaxText))) }},
		{"many versions", func(s *api.State) {
			s.Tables[0].Docs[0].Versions = many(2000, func(int) api.Version { return api.Version{Seq: 1, Value: doc()} })
		}},
	}
}

// wrongChanges are those behind which it is not.
func wrongChanges() []named {
	return []named{
		{"Seq", func(s *api.State) { s.Seq = 1<<62 + 1 }},
		{"greater Seq", func(s *api.State) { s.Seq = math.MaxUint64 }},
		{"Last", func(s *api.State) { s.Last = 1<<62 + 1 }},
		{"greater Last", func(s *api.State) { s.Last = math.MaxUint64 }},
		{"many tables", func(s *api.State) { s.Tables = append(s.Tables, tables(api.MaxTables-2)...) }},
		{"empty name", func(s *api.State) { s.Tables[2].Name = "" }},
		{"long name", func(s *api.State) { s.Tables[0].Name = xs(api.MaxText + 1) }},
		{"name without UTF-8", func(s *api.State) { s.Tables[0].Name = "a\xff" }},
		{"name twice", func(s *api.State) { s.Tables[1].Name = "t" }},
		{"name twice, not next", func(s *api.State) { s.Tables[2].Name = "t" }},
		{"many indexes", func(s *api.State) { s.Tables[2].Indexes = names(api.MaxFields + 1) }},
		{"empty field", func(s *api.State) { s.Tables[0].Indexes[1] = "" }},
		{"long field", func(s *api.State) { s.Tables[0].Indexes[1] = xs(api.MaxText + 1) }},
		{"field without UTF-8", func(s *api.State) { s.Tables[0].Indexes[1] = "\xc0\x80" }},
		{"field twice", func(s *api.State) { s.Tables[0].Indexes[1] = "a" }},
		{"field twice, not next", func(s *api.State) { s.Tables[0].Indexes = append(s.Tables[0].Indexes, "a") }},
		{"many documents", func(s *api.State) { s.Last = 5000; s.Tables[0].Docs = docs(api.MaxDocs+1, 10) }},
		{"Id 0", func(s *api.State) { s.Tables[0].Docs[0].Id = 0 }},
		{"Id above Last", func(s *api.State) { s.Tables[0].Docs[3].Id = 10 }},
		{"Last below an Id", func(s *api.State) { s.Last = 6 }},
		{"greatest number as Id", func(s *api.State) { s.Tables[0].Docs[3].Id = math.MaxUint64 }},
		{"Id twice in a table", func(s *api.State) { s.Tables[0].Docs[2].Id = 7 }},
		{"Ids that fall", func(s *api.State) { s.Tables[0].Docs[2].Id = 8 }},
		{"Id in two tables", func(s *api.State) { s.Tables[1].Docs[1].Id = 6 }},
		{"Id in tables that are not next", func(s *api.State) {
			s.Tables[2].Docs = []api.Doc{{Id: 1, Versions: []api.Version{{Seq: 1, Value: doc()}}}}
		}},
		{"no version", func(s *api.State) { s.Tables[0].Docs[0].Versions = nil }},
		{"an empty list of versions", func(s *api.State) { s.Tables[1].Docs[1].Versions = []api.Version{} }},
		{"version of block 0", func(s *api.State) { s.Tables[0].Docs[0].Versions[0].Seq = 0 }},
		{"version above Seq", func(s *api.State) { s.Tables[0].Docs[0].Versions[1].Seq = 6 }},
		{"Seq below a version's", func(s *api.State) { s.Seq = 4 }},
		{"versions that fall", func(s *api.State) { s.Tables[0].Docs[0].Versions[0].Seq = 4 }},
		{"a Gone one behind that falls", func(s *api.State) { s.Tables[0].Docs[1].Versions[2].Seq = 1 }},
		{"a Gone one that is not the last", func(s *api.State) { s.Tables[0].Docs[1].Versions[1] = api.Version{Seq: 2, Gone: true} }},
		{"a Gone one at first", func(s *api.State) { s.Tables[0].Docs[0].Versions[0] = api.Version{Seq: 1, Gone: true} }},
		{"a Gone one with a struct", func(s *api.State) { s.Tables[0].Docs[1].Versions[2].Value = doc() }},
		{"a Gone one with an int", func(s *api.State) { s.Tables[0].Docs[1].Versions[2].Value = whole(0) }},
		{"a Gone one with a wrong null", func(s *api.State) { s.Tables[0].Docs[1].Versions[2].Value = api.Value{N: 1} }},
		{"a Gone one with no kind", func(s *api.State) { s.Tables[0].Docs[1].Versions[2].Value = api.Value{Kind: 99} }},
		{"a null that is not Gone", func(s *api.State) { s.Tables[0].Docs[1].Versions[2].Gone = false }},
		{"an int", func(s *api.State) { s.Tables[0].Docs[0].Versions[0].Value = whole(1) }},
		{"a list", func(s *api.State) { s.Tables[0].Docs[0].Versions[1].Value = list() }},
		{"no kind", func(s *api.State) { s.Tables[0].Docs[0].Versions[1].Value.Kind = api.KindCount }},
		{"a wrong struct", func(s *api.State) { s.Tables[1].Docs[1].Versions[0].Value.Fields[0].Name = "" }},
		{"a strange field", func(s *api.State) { s.Tables[1].Docs[1].Versions[0].Value.S = "s" }},
		{"a text without UTF-8", func(s *api.State) { s.Tables[0].Docs[0].Versions[0].Value = doc("a", text("\xff")) }},
		{"a deep value", func(s *api.State) { s.Tables[0].Docs[0].Versions[0].Value = within(api.MaxDepth+1, whole(1)) }},
		{"fields that fall in a value", func(s *api.State) {
			s.Tables[0].Docs[0].Versions[0].Value = doc("b", whole(1), "a", whole(1))
		}},
	}
}

func TestCheckRight(t *testing.T) {
	for _, x := range rightChanges() {
		s := small()
		x.with(&s)
		if why := table.Check(s); why != api.OK || !isRight(s) {
			t.Errorf("%s: error %d", x.name, why)
		}
	}
	if why := table.Check(api.State{}); why != api.OK {
		t.Errorf("the state without anything: error %d", why)
	}
}

// 8.1, 8.2, 8.3: each way in which a state is not right, at each call, whatever else is wrong.
func TestCheckWrong(t *testing.T) {
	for _, x := range wrongChanges() {
		s := small()
		x.with(&s)
		if isRight(s) {
			t.Fatalf("%s: a right state", x.name)
		}
		refused(t, x.name, s)
	}
}

// Two wrongs are no right.
func TestCheckTwiceWrong(t *testing.T) {
	for _, x := range wrongChanges() {
		for _, y := range wrongChanges() {
			s := small()
			x.with(&s)
			if len(s.Tables) < 3 || len(s.Tables[0].Docs) < 4 || len(s.Tables[0].Docs[0].Versions) < 2 || len(s.Tables[1].Docs[1].Versions) < 1 {
				continue
			}
			y.with(&s)
			if why := table.Check(s); why == api.OK != isRight(s) {
				t.Errorf("%s, %s: error %d", x.name, y.name, why)
			}
		}
	}
}

// refused fails, if a call does not answer that a state is not right.
func refused(t *testing.T, name string, s api.State) {
	t.Helper()
	if why := table.Check(s); why != api.ErrState {
		t.Errorf("%s: Check: error %d", name, why)
	}
	b := block(t, s.Seq&(1<<62-1)+1, tableRev("new"))
	wrong := b
	wrong.Root = first
	for _, x := range []api.Block{b, wrong, {}} {
		if s, why := table.Apply(s, x); why != api.ErrState || !sameState(s, api.State{}) {
			t.Errorf("%s: Apply: error %d", name, why)
		}
	}
	for _, r := range []api.Rev{tableRev("new"), tableRev("t"), {}, putRev("none", 1, 0, doc())} {
		for _, seq := range []uint64{0, s.Seq, math.MaxUint64} {
			if s, why := table.Do(s, seq, r); why != api.ErrState || !sameState(s, api.State{}) {
				t.Errorf("%s: Do: error %d", name, why)
			}
		}
	}
	for _, at := range []string{"t", "v", "none", ""} {
		if l, why := table.Current(s, at); why != api.ErrState || len(l) != 0 {
			t.Errorf("%s: Current: %v, error %d", name, l, why)
		}
		if l, why := table.History(s, at, 9); why != api.ErrState || len(l) != 0 {
			t.Errorf("%s: History: %v, error %d", name, l, why)
		}
		for _, low := range []api.Bound{{}, from(text("\xff"))} {
			if l, why := table.Lookup(s, at, "a", low, api.Bound{}); why != api.ErrState || len(l) != 0 {
				t.Errorf("%s: Lookup: %v, error %d", name, l, why)
			}
		}
	}
}

// 8.1: hand-made states of small numbers, of which many are right and many are not.
func TestCheckAny(t *testing.T) {
	r := rand.New(rand.NewSource(81))
	rights := 0
	for range 40000 {
		s := anyState(r)
		for range r.Intn(3) {
			spoil(r, &s)
		}
		want := isRight(s)
		if want {
			rights++
		}
		if why := table.Check(s); (why == api.OK) != want || why != api.OK && why != api.ErrState {
			t.Fatalf("Check(%v): error %d", s, why)
		}
	}
	if rights < 4000 || rights > 36000 {
		t.Errorf("%d right states", rights)
	}
}

// spoil changes one number, name or value somewhere.
func spoil(r *rand.Rand, s *api.State) {
	number := func(n *uint64) { *n += uint64(r.Intn(5)) - 2 }
	name := func(s *string) { *s = []string{"a", "b", "n0", "", "\xff", xs(1024), xs(1025)}[r.Intn(7)] }
	switch r.Intn(3) {
	case 0:
		number(&s.Seq)
	case 1:
		number(&s.Last)
	}
	if len(s.Tables) == 0 {
		return
	}
	t := &s.Tables[r.Intn(len(s.Tables))]
	switch r.Intn(4) {
	case 0:
		name(&t.Name)
	case 1:
		if len(t.Indexes) > 0 {
			name(&t.Indexes[r.Intn(len(t.Indexes))])
		}
	}
	if len(t.Docs) == 0 {
		return
	}
	d := &t.Docs[r.Intn(len(t.Docs))]
	if r.Intn(3) == 0 {
		number(&d.Id)
	}
	if len(d.Versions) == 0 || r.Intn(9) == 0 {
		d.Versions = nil
		return
	}
	v := &d.Versions[r.Intn(len(d.Versions))]
	switch r.Intn(5) {
	case 0:
		number(&v.Seq)
	case 1:
		v.Gone = !v.Gone
	case 2:
		v.Value = []api.Value{{}, doc(), whole(0), list(), {N: 1}, {Kind: 99}, doc("", whole(1))}[r.Intn(7)]
	}
}
