package ledger_test

import (
	"math"
	"slices"
	"strings"
	"testing"

	"codicil/api"
	"codicil/ledger"
)

// The chapter's example.
func TestExample(t *testing.T) {
	l, id, why := ledger.Begin(ledger.New())
	if id != 1 || why != api.OK {
		t.Fatalf("Begin: %d, error %d", id, why)
	}
	l, r, why := ledger.Exec(l, id, "CREATE TABLE t", 10)
	if !same(r, api.Result{Count: 1, Left: 9}) || why != api.OK {
		t.Fatalf("Exec: %s, error %d", show(r), why)
	}
	l, seq, why := ledger.Commit(l, id)
	if seq != 1 || why != api.OK || len(l.Blocks) != 1 || len(l.Sessions) != 0 {
		t.Fatalf("Commit: %s, %d, error %d", show(l), seq, why)
	}
	b := l.Blocks[0]
	if b.Seq != 1 || b.Prev != nought || !same(b.Statements, []string{"CREATE TABLE t"}) || !same(b.Revs, []api.Rev{tableRev("t")}) {
		t.Errorf("block: %s", show(b))
	}
	if !same(l.State, api.State{Seq: 1, Tables: []api.Table{{Name: "t"}}}) || l.Prev != digest(b) || l.Last != 1 {
		t.Errorf("ledger: %s", show(l))
	}
	l, id, _ = ledger.Begin(l)
	l, r, why = ledger.Exec(l, id, "SELECT * FROM t", 10)
	if id != 2 || !same(r, api.Result{Left: 10}) || why != api.OK {
		t.Fatalf("Exec: %d, %s, error %d", id, show(r), why)
	}
	l, seq, why = ledger.Commit(l, id)
	if seq != 0 || why != api.OK || len(l.Blocks) != 1 || len(l.Sessions) != 0 || l.Last != 2 {
		t.Errorf("Commit: %s, %d, error %d", show(l), seq, why)
	}
}

// 17.2: Begin has one session more, of State; with MaxSess of them none.
func TestBegin(t *testing.T) {
	l := small(t)
	first := l.Last
	for i := range api.MaxSess {
		got := met(t, l, begin(), api.OK)
		x := got.Ledger.Sessions[i]
		if got.Id != first+1+i || got.Ledger.Last != got.Id || !same(x, api.Session{Id: got.Id, View: api.View{Base: l.State}}) {
			t.Fatalf("Begin: %d, %s", got.Id, show(x))
		}
		if y := without(got.Ledger, got.Id); y.Last-1 != l.Last || !same(y.Sessions, l.Sessions) || !same(y.Blocks, l.Blocks) || !same(y.State, l.State) || y.Prev != l.Prev {
			t.Fatalf("Begin changed %s", show(y))
		}
		l = got.Ledger
	}
	if got := met(t, l, begin(), api.ErrFull); !same(got, told{Ledger: l, Why: api.ErrFull}) {
		t.Errorf("one more: %s", show(got))
	}
	l = met(t, l, abort(first+3), api.OK).Ledger
	got := met(t, l, begin(), api.OK)
	if got.Id != first+9 {
		t.Errorf("behind an end: %d", got.Id)
	}
	met(t, got.Ledger, begin(), api.ErrFull)
}

// 17.2: an Id is one more than Last, whatever Last is.
func TestBeginAtEdges(t *testing.T) {
	for _, last := range []int{0, 1, 7, 1 << 31, math.MaxInt - 1, -1} {
		l := small(t)
		l.Last = last
		if got := met(t, l, begin(), api.OK); got.Id != last+1 || got.Ledger.Last != last+1 {
			t.Errorf("Last %d: %d", last, got.Id)
		}
	}
	l := small(t)
	l.Last = math.MaxInt
	ledger.Begin(l) // there is no greater one; it answers all the same
}

// 17.2, 17.3: ids of which there is no session.
func TestUnknown(t *testing.T) {
	l := busy(t)
	l = met(t, l, commit(5), api.OK).Ledger
	l = met(t, l, abort(6), api.OK).Ledger
	l = met(t, l, commit(7), api.ErrState).Ledger
	for _, x := range []api.Ledger{l, small(t), ledger.New()} {
		for _, id := range []int{0, -1, -4, 1, 2, 3, 5, 6, 7, 8, math.MaxInt, math.MinInt} {
			for _, c := range []call{exec(id, "SELECT * FROM t", 99), exec(id, "no statement", 99), exec(id, "SELECT * FROM t", -1), commit(id), abort(id)} {
				if got := met(t, x, c, api.ErrUnknown); !same(got, told{Ledger: x, Why: api.ErrUnknown}) {
					t.Fatalf("%s: %s", show(c), show(got))
				}
			}
		}
	}
}

// 17.2: Exec has what occ.Exec says of the session, and leaves all else.
func TestExec(t *testing.T) {
	l := busy(t)
	got := met(t, l, exec(6, "SELECT b AS x FROM t WHERE a = 4", 99), api.OK)
	if !same(got.Result.Rows, []api.Value{doc("x", number(7))}) || got.Result.Count != 0 || got.Result.Left >= 99 {
		t.Errorf("it does not see what it changed: %s", show(got.Result))
	}
	got = met(t, l, exec(5, "INSERT INTO t {a: 5}", 99), api.OK)
	if got.Result.Count != 1 || !same(got.Ledger.Sessions[1].View.Revs[1], putRev("t", 6, 0, doc("a", number(5)))) {
		t.Errorf("INSERT: %s", show(got))
	}
	for _, id := range []int{4, 6, 7} {
		if i := place(l, id); !same(got.Ledger.Sessions[i], l.Sessions[i]) {
			t.Errorf("session %d is %s", id, show(got.Ledger.Sessions[i]))
		}
	}
	got.Ledger.Sessions[1] = l.Sessions[1]
	if !same(got.Ledger, l) {
		t.Errorf("INSERT changed %s", show(got.Ledger))
	}
	if got := met(t, l, exec(4, "SELECT * FROM t", 99), api.ErrName); !same(got.Ledger.Sessions[0].Reads, []api.Read{{Table: "t", All: true}}) {
		t.Errorf("ahead of all blocks: %s", show(got))
	}
}

// 17.2: Exec with each error; the session is what occ.Exec says, whatever the error.
func TestExecErrors(t *testing.T) {
	l, id := opened(t, small(t), "INSERT INTO t {a: 5, c: 'x'}")
	many63 := did(t, l, id, many(62, func(int) string { return "INSERT INTO u {}" })...)
	many64 := did(t, many63, id, "CREATE INDEX ON w (a)")
	for _, x := range []struct {
		from       api.Ledger
		text       string
		fuel       int
		why        api.Errno
		statements int // how many more there are
		reads      int
		dead       bool
	}{
		{l, "SELECT * FROM t", -1, api.ErrRange, 0, 0, false},
		{l, "no statement", api.MaxFuel + 1, api.ErrRange, 0, 0, false},
		{l, "", 99, api.ErrSyntax, 0, 0, false},
		{l, "SELECT * FROM t 5", 99, api.ErrSyntax, 0, 0, false},
		{l, "SELECT * FROM \xff", 99, api.ErrSyntax, 0, 0, false},
		{l, "INSERT INTO t {a: '\xff'}", 99, api.ErrUtf, 0, 0, false},
		{l, "SELECT 9999999999999999999 AS x FROM t", 99, api.ErrSyntax, 0, 0, false},
		{l, "SELECT 9223372036854775807 + 1 AS x FROM t", 99, api.ErrOver, 1, 1, false},
		{l, "INSERT INTO t {a: 1, a: 2}", 99, api.ErrTwice, 0, 0, false},
		{l, "INSERT INTO t {a: " + strings.Repeat("(", 17) + "1" + strings.Repeat(")", 17) + "}", 99, api.ErrDepth, 0, 0, false},
		{l, "INSERT INTO t {a: 1" + strings.Repeat(" + 1", 100) + "}", 99, api.ErrMany, 0, 0, false},
		{l, "SELECT * FROM t" + strings.Repeat(" ", 1009), 99, api.OK, 1, 1, false},
		{l, "SELECT * FROM t" + strings.Repeat(" ", 1010), 99, api.ErrLong, 0, 0, true},
		{l, "SELECT * FROM none", 99, api.ErrName, 1, 1, false},
		{l, "CREATE TABLE t", 99, api.ErrTwice, 1, 1, false},
		{l, "INSERT INTO t 5", 99, api.ErrType, 1, 1, false},
		{l, "SELECT c + 1 AS x FROM t", 99, api.ErrType, 1, 1, false},
		{l, "SELECT * FROM t", 0, api.ErrFuel, 1, 1, true},
		{l, "INSERT INTO t {}", 0, api.ErrFuel, 1, 1, true},
		{many63, "SELECT * FROM t", api.MaxFuel, api.OK, 1, 1, false},
		{many63, "INSERT INTO t {}", api.MaxFuel, api.OK, 1, 0, false},
		{many63, "DELETE FROM t", api.MaxFuel, api.ErrFull, 1, 1, true},
		{many64, "SELECT * FROM t", api.MaxFuel, api.ErrMany, 0, 0, true},
	} {
		got := met(t, x.from, exec(id, x.text, x.fuel), x.why)
		was, is := x.from.Sessions[0], got.Ledger.Sessions[0]
		if len(is.Statements) != len(was.Statements)+x.statements || len(is.Reads) != len(was.Reads)+x.reads || is.Dead != x.dead {
			t.Errorf("%s: session %s behind %s", x.text, show(is), show(was))
		}
		if x.why != api.OK && (!same(is.View, was.View) || !same(got.Result, api.Result{})) {
			t.Errorf("%s: error %d, but %s, %s", x.text, x.why, show(is.View), show(got.Result))
		}
		got.Ledger.Sessions[0] = was
		if !same(got.Ledger, x.from) {
			t.Errorf("%s changed %s", x.text, show(got.Ledger))
		}
	}
	dead := met(t, l, exec(id, "SELECT * FROM t", 0), api.ErrFuel).Ledger
	for _, c := range []call{exec(id, "SELECT * FROM t", 99), exec(id, "no statement", 99), exec(id, "SELECT * FROM t", -1)} {
		if got := met(t, dead, c, api.ErrState); !same(got, told{Ledger: dead, Why: api.ErrState}) {
			t.Errorf("%s of a Dead one: %s", show(c), show(got))
		}
	}
}

// 17.2: Abort ends a session, and leaves all else.
func TestAbort(t *testing.T) {
	l := busy(t)
	for _, id := range []int{4, 5, 6, 7} {
		if got := met(t, l, abort(id), api.OK); !same(got, told{Ledger: without(l, id)}) {
			t.Errorf("Abort(%d): %s", id, show(got))
		}
	}
}

// gone fails, unless Commit has an error or made no block, and the session is no more, all else being as it was.
func gone(t *testing.T, name string, l api.Ledger, id int, why api.Errno) {
	t.Helper()
	if got := met(t, l, commit(id), why); !same(got, told{Ledger: without(l, id), Why: why}) {
		t.Errorf("%s: %s", name, show(got))
	}
}

// 17.3: sessions that make no block.
func TestCommitWithoutBlock(t *testing.T) {
	l, id := opened(t, busy(t))
	gone(t, "it did nothing", l, id, api.OK)
	l = did(t, l, id, "SELECT * FROM t", "SELECT * FROM none", "DELETE FROM t WHERE a = 99", "no statement")
	gone(t, "it only read", l, id, api.OK)
	gone(t, "ahead of all blocks", l, 4, api.OK)
	changed := with(t, l, "UPDATE t SET c = 1")
	gone(t, "it only read, and is disturbed", changed, id, api.OK)
	gone(t, "Dead, with Revs", l, 7, api.ErrState)
	dead := met(t, l, exec(id, "SELECT * FROM t", 0), api.ErrFuel).Ledger
	gone(t, "Dead, without Revs", dead, id, api.ErrState)
	gone(t, "Dead, without Revs, disturbed", with(t, dead, "UPDATE t SET c = 1"), id, api.ErrState)
}

// 17.3: sessions whose block can't be.
func TestCommitErrors(t *testing.T) {
	l, id := opened(t, busy(t), "SELECT * FROM t WHERE a = 1", "INSERT INTO w {}")
	gone(t, "disturbed by what it read", with(t, l, "UPDATE t SET c = 1 WHERE a = 1"), id, api.ErrConflict)
	gone(t, "disturbed by an INSERT", with(t, l, "INSERT INTO u {}"), id, api.ErrConflict)
	got := met(t, with(t, l, "UPDATE t SET c = 1 WHERE a = 4"), commit(id), api.OK)
	if got.Seq != 5 {
		t.Errorf("not disturbed: %d", got.Seq)
	}
	l, id = opened(t, small(t), many(17, func(int) string { return "INSERT INTO w {}" + strings.Repeat(" ", 1000) })...)
	gone(t, "a block that is too long", l, id, api.ErrLong)
	gone(t, "one that is too long and disturbed", with(t, l, "INSERT INTO w {}"), id, api.ErrConflict)
	l, id = opened(t, small(t), many(8, func(i int) string { return "CREATE TABLE " + name(i) })...)
	gone(t, "too many tables", with(t, l, many(8, func(i int) string { return "CREATE TABLE " + name(i+8) })...), id, api.ErrConflict)
	met(t, with(t, l, many(5, func(i int) string { return "CREATE TABLE " + name(i+8) })...), commit(id), api.OK)
}

// 17.3: MaxBlocks blocks, and one less.
func TestCommitFull(t *testing.T) {
	sessions := func(l api.Ledger) (api.Ledger, []int) {
		l, read := opened(t, l, "SELECT * FROM t")
		l, wrote := opened(t, l, "INSERT INTO t {}")
		l, dead := opened(t, l)
		l = met(t, l, exec(dead, "SELECT * FROM t", 0), api.ErrFuel).Ledger
		l, both := opened(t, l, "INSERT INTO t {}")
		return met(t, l, exec(both, "SELECT * FROM t", 0), api.ErrFuel).Ledger, []int{read, wrote, dead, both}
	}
	almost, ids := sessions(of(t, long(t, api.MaxBlocks-1)))
	gone(t, "only read, almost full", almost, ids[0], api.OK)
	gone(t, "Dead, almost full", almost, ids[2], api.ErrState)
	got := met(t, almost, commit(ids[1]), api.OK)
	if got.Seq != api.MaxBlocks || len(got.Ledger.Blocks) != api.MaxBlocks {
		t.Fatalf("the last one: %d", got.Seq)
	}
	full, ids := sessions(twin(got.Ledger))
	gone(t, "only read", full, ids[0], api.OK)
	gone(t, "wrote", full, ids[1], api.ErrFull)
	gone(t, "Dead", full, ids[2], api.ErrFull)
	gone(t, "Dead, wrote", full, ids[3], api.ErrFull)
	behind := full.Sessions[place(full, ids[1])]
	disturbed := api.Ledger{Blocks: full.Blocks, State: full.State, Prev: full.Prev, Last: behind.Id, Sessions: almost.Sessions[1:2]}
	gone(t, "wrote, disturbed", disturbed, disturbed.Sessions[0].Id, api.ErrFull)
}

// 17.3: the block that a session makes, and what is there behind it.
func TestCommit(t *testing.T) {
	l := busy(t)
	got := met(t, l, commit(5), api.OK)
	b := got.Ledger.Blocks[3]
	if got.Seq != 4 || b.Seq != 4 || b.Prev != l.Prev || !same(b.Statements, l.Sessions[1].Statements) || !same(b.Revs, l.Sessions[1].View.Revs) {
		t.Fatalf("Commit: %d, %s", got.Seq, show(b))
	}
	s := twin(l.State)
	s.Seq, s.Last = 4, 5
	s.Tables[1].Docs = append(s.Tables[1].Docs, api.Doc{Id: 5, Versions: []api.Version{{Seq: 4, Value: doc("word", word("words"))}}})
	want := without(l, 5)
	want.Blocks, want.State, want.Prev = append(slices.Clone(l.Blocks), b), s, digest(b)
	if !same(got.Ledger, want) {
		t.Errorf("Commit: %s, not %s", show(got.Ledger), show(want))
	}
	second := met(t, got.Ledger, commit(6), api.OK)
	if second.Seq != 5 || second.Ledger.Blocks[4].Prev != digest(b) {
		t.Errorf("the one behind it: %d, %s", second.Seq, show(second.Ledger.Blocks[4]))
	}
}
