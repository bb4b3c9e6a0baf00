package table_test

import (
	"math"
	"math/rand"
	"slices"
	"testing"

	"codicil/api"
	"codicil/journal"
	"codicil/table"
)

// applied is Apply of any arguments, to the chapter's letter.
func applied(s api.State, b api.Block) (api.State, api.Errno) {
	if !isRight(s) {
		return api.State{}, api.ErrState
	}
	if why := journal.Check(b); why != api.OK {
		return api.State{}, why
	}
	if b.Seq != s.Seq+1 {
		return api.State{}, api.ErrChain
	}
	for _, r := range b.Revs {
		x, why := done(s, b.Seq, r)
		if why != api.OK {
			return api.State{}, why
		}
		s = x
	}
	return s, api.OK
}

// isApplied fails, if Apply does not answer what the chapter says.
func isApplied(t *testing.T, name string, s api.State, b api.Block) (api.State, api.Errno) {
	t.Helper()
	ahead := twin(s)
	want, no := applied(s, b)
	got, why := table.Apply(s, b)
	if why != no || !sameState(got, want) {
		t.Fatalf("%s: Apply(%s, %s): %s, error %d, not %s, error %d", name, show(s), show(b), show(got), why, show(want), no)
	}
	if !sameState(s, ahead) {
		t.Fatalf("%s: Apply(%s, %s) changed its state: %s", name, show(ahead), show(b), show(s))
	}
	return got, why
}

// 8.2: all revisions of a block, one by one, each on what the ones ahead of it made.
func TestApply(t *testing.T) {
	b := block(t, 6,
		tableRev("w"), indexRev("w", "a"), putRev("w", 10, 0, doc("a", whole(1))), putRev("w", 10, 1, doc("a", whole(2))),
		dropRev("w", 10, 2), putRev("t", 11, 0, doc()), dropRev("t", 1, 2))
	want := small()
	want.Seq, want.Last = 6, 11
	want.Tables = append(want.Tables, api.Table{Name: "w", Indexes: []string{"a"}, Docs: []api.Doc{{Id: 10, Versions: []api.Version{
		{Seq: 6, Value: doc("a", whole(1))}, {Seq: 6, Value: doc("a", whole(2))}, {Seq: 6, Gone: true},
	}}}})
	first := &want.Tables[0]
	first.Docs = append(first.Docs, api.Doc{Id: 11, Versions: []api.Version{{Seq: 6, Value: doc()}}})
	first.Docs[0].Versions = append(first.Docs[0].Versions, api.Version{Seq: 6, Gone: true})
	if got, why := table.Apply(small(), b); why != api.OK || !sameState(got, want) {
		t.Errorf("%s, error %d", show(got), why)
	}
	isApplied(t, "written out", small(), b)
}

// 8.2: blocks whose Seq is not one more.
func TestApplyChain(t *testing.T) {
	for _, own := range []uint64{0, 1, 5, 1<<62 - 2, 1<<62 - 1, 1 << 62} {
		s := api.State{Seq: own}
		for _, seq := range []uint64{1, 2, 3, 5, 6, 7, own - 1, own, own + 1, own + 2, 1<<62 - 1, 1 << 62} {
			if seq < 1 || seq > 1<<62 {
				continue
			}
			want := api.ErrChain
			if seq == own+1 {
				want = api.OK
			}
			if _, why := isApplied(t, "chain", s, block(t, seq, tableRev("t"))); why != want {
				t.Errorf("Apply of block %d behind %d: error %d, not %d", seq, own, why, want)
			}
		}
	}
}

// 8.2, P3: of a block that is wrong in several ways the first one is told: journal.Check's, the chain's, the first revision's.
func TestApplyFaults(t *testing.T) {
	refusedRev := block(t, 6, tableRev("t"))
	gap := block(t, 7, tableRev("t"))
	for _, x := range []struct {
		name string
		why  api.Errno
		with func(b *api.Block)
	}{
		{"Seq 0", api.ErrRange, func(b *api.Block) { b.Seq = 0 }},
		{"great Seq", api.ErrRange, func(b *api.Block) { b.Seq = 1<<62 + 1 }},
		{"greatest Seq", api.ErrRange, func(b *api.Block) { b.Seq = math.MaxUint64 }},
		{"short Prev", api.ErrLong, func(b *api.Block) { b.Prev = "short" }},
		{"no revisions", api.ErrMany, func(b *api.Block) { b.Revs = nil }},
		{"many revisions", api.ErrMany, func(b *api.Block) { b.Revs = make([]api.Rev, api.MaxRevs+1) }},
		{"long statement", api.ErrLong, func(b *api.Block) { b.Statements = []string{xs(api.MaxText + 1)} }},
		{"wrong revision", api.ErrType, func(b *api.Block) { b.Revs = append(b.Revs[:1:1], api.Rev{}) }},
		{"wrong Root", api.ErrForm, func(b *api.Block) { b.Root = first }},
		{"other revisions than Root's", api.ErrForm, func(b *api.Block) { b.Revs = []api.Rev{tableRev("u")} }},
	} {
		for _, b := range []api.Block{refusedRev, gap, block(t, 6, tableRev("new"))} {
			x.with(&b)
			if _, why := isApplied(t, x.name, small(), b); why != x.why {
				t.Errorf("%s: error %d, not %d", x.name, why, x.why)
			}
		}
	}
	if _, why := isApplied(t, "chain ahead of revisions", small(), gap); why != api.ErrChain {
		t.Errorf("chain ahead of revisions: error %d", why)
	}
	if _, why := isApplied(t, "revision", small(), refusedRev); why != api.ErrTwice {
		t.Errorf("revision: error %d", why)
	}
}

// 8.2: the first revisions are done, and a later one is refused: nothing is told but its error.
func TestApplyLaterRefused(t *testing.T) {
	good := []api.Rev{tableRev("w"), indexRev("w", "a"), putRev("w", 10, 0, doc()), dropRev("w", 10, 1)}
	bad := []struct {
		rev api.Rev
		why api.Errno
	}{
		{tableRev("t"), api.ErrTwice},
		{tableRev("w"), api.ErrTwice},
		{indexRev("none", "a"), api.ErrName},
		{indexRev("w", ""), api.ErrLong},
		{indexRev("w", "a"), api.ErrTwice},
		{putRev("w", 10, 0, doc()), api.ErrRange},
		{putRev("w", 12, 0, doc()), api.ErrRange},
		{putRev("w", 99, 1, doc()), api.ErrUnknown},
		{putRev("w", 10, 2, doc()), api.ErrState},
		{dropRev("w", 10, 1), api.ErrState},
		{putRev("t", 1, 1, doc()), api.ErrRange},
		{dropRev("t", 4, 1), api.ErrUnknown},
	}
	for _, x := range bad {
		for _, y := range bad {
			b := block(t, 6, append(append([]api.Rev{}, good...), x.rev, tableRev("more"), y.rev)...)
			if s, why := isApplied(t, "later", small(), b); why != x.why || !sameState(s, api.State{}) {
				t.Errorf("%v: %v, error %d, not %d", x.rev, s, why, x.why)
			}
		}
	}
}

// 8.2: blocks of MaxRevs revisions, up to limits and one more.
func TestApplyLimits(t *testing.T) {
	s, why := isApplied(t, "tables", api.State{}, block(t, 1, many(api.MaxTables, func(i int) api.Rev { return tableRev(names(i + 1)[i]) })...))
	if why != api.OK || len(s.Tables) != api.MaxTables {
		t.Fatalf("%d tables, error %d", len(s.Tables), why)
	}
	if _, why := isApplied(t, "one more", s, block(t, 2, tableRev("more"))); why != api.ErrFull {
		t.Errorf("one more table: error %d", why)
	}
	for s.Last < api.MaxDocs {
		b := block(t, s.Seq+1, many(api.MaxRevs, func(i int) api.Rev { return putRev("n7", s.Last+1+uint64(i), 0, doc("a", whole(int64(i)))) })...)
		if s, why = isApplied(t, "documents", s, b); why != api.OK {
			t.Fatalf("error %d", why)
		}
	}
	if _, why := isApplied(t, "one more", s, block(t, s.Seq+1, dropRev("n7", 3, 1), putRev("n7", s.Last+1, 0, doc()))); why != api.ErrFull {
		t.Errorf("one more document: error %d", why)
	}
}

// From the state without anything, whatever blocks are applied.
func TestWhateverIsApplied(t *testing.T) {
	r := rand.New(rand.NewSource(85))
	oks, refusals := 0, 0
	for range 150 {
		s := api.State{}
		var was []api.State
		for range 25 {
			was = append(was, s)
			x, why := isApplied(t, "whatever", s, anyBlock(t, r, s))
			if why != api.OK {
				refusals++
				continue
			}
			oks++
			s = x
			follows(t, s, was)
		}
	}
	if oks < 500 || refusals < 500 {
		t.Errorf("%d blocks were applied, %d refused", oks, refusals)
	}
}

// anyBlock is one of which most revisions can be done behind a state.
func anyBlock(t *testing.T, r *rand.Rand, s api.State) api.Block {
	t.Helper()
	var revs []api.Rev
	now := s
	for len(revs) == 0 || r.Intn(4) > 0 && len(revs) < 12 {
		rev := anyRev(r, now)
		x, why := done(now, s.Seq+1, rev)
		if why != api.OK && r.Intn(8) > 0 {
			continue
		}
		if why == api.OK {
			now = x
		}
		revs = append(revs, rev)
	}
	return block(t, s.Seq+1, revs...)
}

// follows fails, if one of 8.5 to 8.8 does not hold of a state that blocks made, and of what was ahead of it.
func follows(t *testing.T, s api.State, was []api.State) {
	t.Helper()
	if why := table.Check(s); why != api.OK {
		t.Fatalf("8.5: Check(%v): error %d", s, why)
	}
	for _, x := range s.Tables {
		history, _ := table.History(s, x.Name, math.MaxUint64)
		next := map[uint64]uint64{}
		last := map[uint64]api.Row{}
		for _, row := range history {
			if row.Version != next[row.Doc] {
				t.Fatalf("8.6: %v behind version %d", row, next[row.Doc])
			}
			next[row.Doc]++
			last[row.Doc] = row
		}
		current, _ := table.Current(s, x.Name)
		for _, row := range current {
			if l := last[row.Doc]; l.Gone || !sameRows([]api.Row{row}, []api.Row{l}) {
				t.Fatalf("8.6: %v is current, %v the last one", row, l)
			}
			delete(last, row.Doc)
		}
		for _, row := range last {
			if !row.Gone {
				t.Fatalf("8.6: %v is not current", row)
			}
		}
		for _, old := range was {
			if tableAt(old, x.Name) < 0 {
				continue
			}
			then, _ := table.History(old, x.Name, old.Seq)
			now, why := table.History(s, x.Name, old.Seq)
			if why != api.OK || !sameRows(then, now) {
				t.Fatalf("8.7: up to %d: %v, then %v", old.Seq, then, now)
			}
		}
		for _, field := range x.Indexes {
			low, high := from(whole(0)), above(text("b"))
			if ids, why := table.Lookup(s, x.Name, field, low, high); why != api.OK || !slices.Equal(ids, lookedUp(s, x.Name, field, low, high)) {
				t.Fatalf("8.8: %v, error %d", ids, why)
			}
		}
	}
}
