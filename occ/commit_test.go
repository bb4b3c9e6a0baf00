package occ_test

import (
	"strings"
	"testing"

	"codicil/api"
	"codicil/journal"
	"codicil/table"
	"codicil/view"
)

// The chapter's example.
func TestExample(t *testing.T) {
	l := small(t)
	x, y := l.opened(t, "SELECT * FROM t", "INSERT INTO t {a: 5}"), l.opened(t, "SELECT * FROM t", "INSERT INTO t {a: 6}")
	l = l.committed(t, x)
	if got := commitAsSaid(t, y, l.state, l.since(y), l.prev(t)); !same(got, made{Why: api.ErrConflict}) {
		t.Errorf("%s", show(got))
	}
}

// 16.3: the block of a session that is committed, and the state behind it.
func TestCommit(t *testing.T) {
	l := small(t)
	texts := []string{"INSERT INTO t {a: 7}", "no statement", "SELECT * FROM u", "UPDATE t SET c = 1 WHERE a = 7", "INSERT INTO t 5", "DELETE FROM t WHERE a = 7", "CREATE TABLE more", "CREATE INDEX ON more (f)"}
	x := l.opened(t, texts...)
	m := l.with(t, "UPDATE w SET a = 1", "CREATE TABLE other")
	got := commitAsSaid(t, x, l.state, nil, xs(32))
	revs := []api.Rev{putRev("t", 7, 0, doc("a", number(7))), putRev("t", 7, 1, doc("a", number(7), "c", number(1))), dropRev("t", 7, 2), tableRev("more"), indexRev("more", "f")}
	if got.Why != api.OK || got.Block.Seq != 4 || got.Block.Prev != xs(32) || !same(got.Block.Revs, revs) || !same(got.Block.Statements, append(texts[:1:1], texts[2:]...)) {
		t.Errorf("%s", show(got))
	}
	if why := journal.Check(got.Block); why != api.OK {
		t.Errorf("Check: error %d", why)
	}
	if s, why := table.Apply(l.state, got.Block); why != api.OK || !same(s, got.State) {
		t.Errorf("%s, error %d", show(got.State), why)
	}
	if s, why := view.Now(x.View); why != api.OK || !same(s, got.State) {
		t.Errorf("what is there now: %s, error %d", show(s), why)
	}
	y := l.opened(t, "CREATE TABLE more")
	got = commitAsSaid(t, y, m.state, m.blocks[3:], m.prev(t))
	if got.Why != api.OK || got.Block.Seq != 5 || got.State.Seq != 5 || len(got.State.Tables) != 5 || got.State.Tables[3].Name != "other" {
		t.Errorf("behind another one: %s", show(got))
	}
}

// 16.3: a session that is dead, or has no Revs, is not committed, whatever it did.
func TestNothingToCommit(t *testing.T) {
	l := small(t)
	for _, texts := range [][]string{nil, {"SELECT * FROM t"}, {"UPDATE t SET a = 1 WHERE FALSE"}, {"DELETE FROM w"}, {"no statement"}, {"INSERT INTO t 5", "SELECT * FROM nothing"}} {
		if got := commitAsSaid(t, l.opened(t, texts...), l.state, nil, nought); !same(got, made{Why: api.ErrState}) {
			t.Errorf("%q: %s", texts, show(got))
		}
	}
	x := l.opened(t, "INSERT INTO t {}")
	x = execAsSaid(t, x, "SELECT * FROM t", 1).Session
	if got := commitAsSaid(t, x, l.state, nil, nought); !x.Dead || !same(got, made{Why: api.ErrState}) {
		t.Errorf("dead: %s", show(got))
	}
}

// 16.3: what journal.Make refuses.
func TestBlockRefused(t *testing.T) {
	l := small(t)
	x := l.opened(t, "CREATE TABLE more")
	for _, prev := range []string{"", "short", xs(31), xs(33), xs(5000)} {
		if got := commitAsSaid(t, x, l.state, nil, prev); !same(got, made{Why: api.ErrLong}) {
			t.Errorf("Prev of %d bytes: %s", len(prev), show(got))
		}
	}
	long := "CREATE TABLE x" + strings.Repeat(" ", 1010)
	y := twin(x)
	y.Statements = many(15, func(int) string { return long })
	if got := commitAsSaid(t, y, l.state, nil, nought); got.Why != api.OK {
		t.Errorf("%d Statements: error %d", len(y.Statements), got.Why)
	}
	y.Statements = many(16, func(int) string { return long })
	if got := commitAsSaid(t, y, l.state, nil, nought); !same(got, made{Why: api.ErrLong}) {
		t.Errorf("a long block: %s", show(got))
	}
	y.Statements = many(64, func(int) string { return "" })
	if got := commitAsSaid(t, y, l.state, nil, nought); got.Why != api.OK {
		t.Errorf("64 Statements: error %d", got.Why)
	}
	z := line{state: l.state}.opened(t)
	for range 20 {
		z = did(t, z, "INSERT INTO t {a: '"+xs(900)+"'}")
	}
	if got := commitAsSaid(t, z, l.state, nil, nought); !same(got, made{Why: api.ErrLong}) {
		t.Errorf("long revisions: %s", show(got))
	}
}

// 16.3: the last Seq that a block may have, and one beyond.
func TestLastBlock(t *testing.T) {
	begin := line{state: api.State{Seq: 1<<62 - 1}}
	x, y := begin.opened(t, "CREATE TABLE t"), begin.opened(t, "CREATE TABLE u")
	got := commitAsSaid(t, x, begin.state, nil, nought)
	if got.Why != api.OK || got.Block.Seq != 1<<62 || got.State.Seq != 1<<62 {
		t.Fatalf("%s", show(got))
	}
	if again := commitAsSaid(t, y, got.State, []api.Block{got.Block}, nought); !same(again, made{Why: api.ErrRange}) {
		t.Errorf("%s", show(again))
	}
}

// 16.3: a session that is not disturbed, but whose revisions can't be done any more.
func TestApplyRefused(t *testing.T) {
	conflicts := func(what string, x api.Session, s api.State, blocks []api.Block) {
		t.Helper()
		fits(t, what, x, s, blocks)
		if got := commitAsSaid(t, x, s, blocks, nought); !same(got, made{Why: api.ErrConflict}) {
			t.Errorf("%s: %s", what, show(got))
		}
		if got := commitAsSaid(t, x, s, blocks, "short"); !same(got, made{Why: api.ErrLong}) {
			t.Errorf("%s, journal.Make's ahead of it: %s", what, show(got))
		}
	}
	l := line{}.with(t, many(15, func(i int) string { return "CREATE TABLE " + name(i) })...).with(t, many(7, func(i int) string { return "CREATE INDEX ON n0 (" + name(i) + ")" })...)
	x, y := l.opened(t, "CREATE TABLE x"), l.opened(t, "CREATE INDEX ON n0 (x)")
	m := l.with(t, "CREATE TABLE y").with(t, "CREATE INDEX ON n0 (y)")
	conflicts("MaxTables", x, m.state, m.blocks[2:])
	conflicts("MaxFields", y, m.state, m.blocks[2:])
	// By hand: another state of the same Seq.
	l = small(t)
	for what, with := range map[string]func(s *api.State){
		"another Last": func(s *api.State) { s.Last = 9 },
		"no table":     func(s *api.State) { s.Tables[0].Name = "other" },
		"no document":  func(s *api.State) { s.Tables[0].Docs = nil },
		"one version more": func(s *api.State) {
			v := &s.Tables[0].Docs[0].Versions
			*v = append(*v, api.Version{Seq: 3, Value: doc()})
		},
	} {
		s := twin(l.state)
		with(&s)
		conflicts(what, l.opened(t, "INSERT INTO t {}", "UPDATE t SET c = 1 WHERE a = 1"), s, nil)
	}
}
