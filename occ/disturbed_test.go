package occ_test

import (
	"fmt"
	"testing"

	"codicil/api"
)

// 16.3: what disturbs a session, and beside each what is nearly so: mine are the session's statements, theirs those of one that was committed since.
func TestDisturbed(t *testing.T) {
	for _, x := range []struct {
		mine, theirs string
		want         bool
	}{
		// A Read of all of a table.
		{"SELECT * FROM t", "UPDATE t SET c = 1 WHERE a = 1", true},
		{"SELECT * FROM t WHERE c = 5", "DELETE FROM t WHERE b = 5", true},
		{"SELECT * FROM t", "INSERT INTO t {z: 1}", true},
		{"SELECT * FROM t", "CREATE INDEX ON t (c)", true},
		{"SELECT * FROM t", "UPDATE u SET c = 1", false},
		{"SELECT * FROM t", "INSERT INTO w {a: 1}", false},
		{"SELECT * FROM t", "CREATE INDEX ON u (c)", false},
		{"SELECT * FROM t", "CREATE TABLE x", false},
		{"SELECT * FROM x", "CREATE TABLE x", true},
		{"SELECT * FROM x", "CREATE TABLE y", false},
		{"SELECT * FROM HISTORY(t) WHERE data.a = 1", "UPDATE t SET c = 1 WHERE a = 2", true},
		{"DELETE FROM t WHERE c = 5", "UPDATE t SET c = 1 WHERE a = 2", true},
		{"UPDATE t SET z = 1 WHERE c = 5", "UPDATE t SET c = 1 WHERE a = 2", true},
		// One of a key: documents that have it, or had it just before.
		{"SELECT * FROM t WHERE a = 1", "UPDATE t SET c = 1 WHERE a = 1", true},
		{"SELECT * FROM t WHERE a = 1", "UPDATE t SET c = 1 WHERE a = 2", false},
		{"SELECT * FROM t WHERE a = 1", "UPDATE t SET a = 1 WHERE a = 2", true},
		{"SELECT * FROM t WHERE a = 1", "UPDATE t SET a = 5 WHERE a = 1", true},
		{"SELECT * FROM t WHERE a = 1", "UPDATE t SET a = 5 WHERE a = 2", false},
		{"SELECT * FROM t WHERE a = 1", "DELETE FROM t WHERE a = 1", true},
		{"SELECT * FROM t WHERE a = 1", "DELETE FROM t WHERE a = 2", false},
		{"SELECT * FROM t WHERE a = 1", "INSERT INTO t {a: 1}", true},
		{"SELECT * FROM t WHERE a = 1", "INSERT INTO t {a: 2}", false},
		{"SELECT * FROM t WHERE a = 1", "INSERT INTO t {b: 1}", false},
		{"SELECT * FROM t WHERE a = 1", "INSERT INTO t {}", false},
		{"SELECT * FROM t WHERE a = 1", "INSERT INTO t {a: '1'}", false},
		{"SELECT * FROM t WHERE a = 1", "INSERT INTO t {a: [1]}", false},
		{"SELECT * FROM t WHERE a = 1", "INSERT INTO t {a: NULL}", false},
		{"SELECT * FROM t WHERE a = 1", "INSERT INTO t {c: {a: 1}}", false},
		{"SELECT * FROM t WHERE a = 1", "INSERT INTO u {a: 1}", false},
		{"SELECT * FROM t WHERE a = 1", "UPDATE u SET c = 1 WHERE a = 1", false},
		{"SELECT * FROM t WHERE a = 1", "UPDATE t SET a = 1 WHERE b = 5", true},
		{"SELECT * FROM t WHERE a = 1", "UPDATE t SET b = 6 WHERE b = 5", false},
		{"SELECT * FROM t WHERE a = 1", "UPDATE t SET a = 5 WHERE a = 1; UPDATE t SET c = 1 WHERE a = 5", true},
		{"SELECT * FROM t WHERE a = 1", "UPDATE t SET a = 1 WHERE a = 2; UPDATE t SET a = 2 WHERE b = 1 AND a = 1", true},
		{"SELECT * FROM t WHERE a = 3", "UPDATE t SET a = 5 WHERE a = 4", false}, // it had the key once, but not just before
		{"SELECT * FROM t WHERE a = 4", "UPDATE t SET a = 5 WHERE a = 4", true},
		{"SELECT * FROM t WHERE a = 3", "DELETE FROM t WHERE a = 4", false},
		{"SELECT * FROM t WHERE b = 1", "UPDATE t SET c = 1 WHERE a = 1", true},
		{"SELECT * FROM t WHERE b = 1 AND a = 2", "UPDATE t SET c = 1 WHERE a = 1", true},
		{"SELECT * FROM t WHERE a = 2 AND b = 1", "UPDATE t SET c = 1 WHERE a = 1", false},
		{"SELECT * FROM t WHERE a = 99", "UPDATE t SET c = 99", false},
		{"SELECT * FROM t WHERE a = 99", "UPDATE t SET a = 99 WHERE a = 1", true},
		{"SELECT * FROM t WHERE a = 1", "CREATE INDEX ON t (c)", true},
		{"SELECT * FROM t WHERE a = 1", "CREATE INDEX ON u (c)", false},
		{"UPDATE t SET z = 1 WHERE a = 1", "UPDATE t SET c = 1 WHERE a = 1", true},
		{"UPDATE t SET z = 1 WHERE a = 1", "UPDATE t SET c = 1 WHERE a = 2", false},
		{"DELETE FROM t WHERE a = 1", "DELETE FROM t WHERE a = 1", true},
		{"DELETE FROM t WHERE a = 1", "DELETE FROM t WHERE a = 2", false},
		// A statement that had an error hangs on all of its table.
		{"SELECT * FROM t WHERE a = 1 AND a < 'x'", "UPDATE t SET c = 1 WHERE a = 2", true},
		{"SELECT * FROM t WHERE a = 1 AND a < 'x'", "UPDATE u SET c = 1", false},
		{"INSERT INTO t 5", "UPDATE t SET c = 1 WHERE a = 2", true},
		{"CREATE TABLE t", "UPDATE t SET c = 1 WHERE a = 2", true},
		{"CREATE INDEX ON t (a)", "INSERT INTO t {}", true},
		{"no statement", "UPDATE t SET c = 1", false},
		// Revisions of both.
		{"INSERT INTO t {a: 1}", "INSERT INTO t {a: 2}", true},
		{"INSERT INTO t {a: 1}", "INSERT INTO u {a: 2}", true},
		{"INSERT INTO w {}", "INSERT INTO t {}; DELETE FROM t", true},
		{"INSERT INTO t {a: 1}", "UPDATE t SET c = 1", false},
		{"INSERT INTO t {a: 1}", "DELETE FROM t", false},
		{"INSERT INTO t {a: 1}", "CREATE INDEX ON t (c)", false},
		{"INSERT INTO t {a: 1}", "CREATE TABLE x", false},
		{"UPDATE u SET c = 1", "INSERT INTO t {a: 1}", false},
		{"DELETE FROM u", "INSERT INTO t {a: 1}", false},
		{"CREATE TABLE x", "CREATE TABLE x", true},
		{"CREATE TABLE x", "CREATE TABLE y", false},
		{"CREATE TABLE x", "CREATE TABLE X", false},
		{"CREATE TABLE x; CREATE TABLE y", "CREATE TABLE z; CREATE TABLE y", true},
		{"CREATE TABLE x; CREATE INDEX ON x (a)", "CREATE INDEX ON t (c)", false},
		{"CREATE INDEX ON t (c)", "CREATE INDEX ON t (c)", true},
		{"CREATE INDEX ON t (c)", "CREATE INDEX ON t (d)", false},
		{"CREATE INDEX ON t (c)", "CREATE INDEX ON u (c)", false},
		{"CREATE INDEX ON w (c)", "INSERT INTO w {c: 1}", false},
		{"CREATE TABLE c", "CREATE INDEX ON t (c)", false},
		{"CREATE TABLE x; INSERT INTO x {}", "INSERT INTO t {}", true},
		// Several of both: one is enough.
		{"SELECT * FROM t WHERE a = 1; SELECT * FROM t WHERE a = 2; SELECT * FROM u", "UPDATE t SET c = 1 WHERE a = 4; UPDATE t SET c = 1 WHERE b = 5", false},
		{"SELECT * FROM t WHERE a = 1; SELECT * FROM t WHERE a = 2; SELECT * FROM u", "UPDATE t SET c = 1 WHERE a = 4; UPDATE u SET c = 1", true},
		{"SELECT * FROM t WHERE a = 1; SELECT * FROM t WHERE a = 2", "UPDATE t SET c = 1 WHERE a = 4; UPDATE t SET c = 1 WHERE a = 2", true},
		{"", "UPDATE t SET c = 1; CREATE TABLE x; INSERT INTO t {}", false},
	} {
		l := small(t)
		mine, theirs := l.opened(t, parts(x.mine)...), l.opened(t, parts(x.theirs)...)
		m := l.committed(t, theirs)
		fits(t, "alone", mine, l.state, nil)
		for i := range 4 { // blocks that begin ahead of the Base say the same
			if is, why := disturbedAsSaid(t, mine, m.state, m.blocks[i:]); is != x.want || why != api.OK {
				t.Errorf("%q beside %q: %v, error %d", x.mine, x.theirs, is, why)
			}
		}
		want := api.OK
		switch {
		case len(mine.View.Revs) == 0:
			want = api.ErrState
		case x.want:
			want = api.ErrConflict
		}
		if got := commitAsSaid(t, mine, m.state, m.blocks[3:], nought); got.Why != want {
			t.Errorf("%q beside %q: Commit: error %d, not %d", x.mine, x.theirs, got.Why, want)
		}
		// The same in the second of three blocks.
		m = l.with(t, "CREATE TABLE q").committed(t, theirs).with(t, "CREATE TABLE r")
		if is, why := disturbedAsSaid(t, mine, m.state, m.blocks[3:]); is != x.want || why != api.OK {
			t.Errorf("%q beside %q, later: %v, error %d", x.mine, x.theirs, is, why)
		}
		// What was there when it began is no news.
		late := m.opened(t, parts(x.mine)...)
		fits(t, "behind it", late, m.state, m.blocks)
	}
}

// parts are the statements of a text, with a semicolon between.
func parts(s string) []string {
	var out []string
	for s != "" {
		i := 0
		for i < len(s) && s[i] != ';' {
			i++
		}
		out = append(out, s[:i])
		s = s[min(i+2, len(s)):]
	}
	return out
}

// 16.3: Reads that no statement made: with All and a key, of fields that can't be, of keys of any kind.
func TestReadsByHand(t *testing.T) {
	l := small(t)
	m := l.with(t, "UPDATE t SET c = [1, {x: 'y'}] WHERE a = 1")
	for _, x := range []struct {
		read api.Read
		want bool
	}{
		{api.Read{}, false},
		{api.Read{Table: "t"}, false},
		{api.Read{Table: "t", Key: number(1)}, false},
		{api.Read{Table: "t", Field: "a"}, false},
		{api.Read{Table: "t", Field: "nothing"}, false},
		{api.Read{Table: "T", Field: "a", Key: number(1)}, false},
		{api.Read{Table: "", All: true}, false},
		{api.Read{Table: "t", All: true, Field: "nothing", Key: number(9)}, true},
		{api.Read{Table: "t", Field: "a", Key: number(1)}, true},
		{api.Read{Table: "t", Field: "a", Key: api.Value{Kind: api.KindInt, N: 1, S: "by the fields that the kind has"}}, true},
		{api.Read{Table: "t", Field: "a", Key: api.Value{Kind: 99, N: 1}}, false},
		{api.Read{Table: "t", Field: "c", Key: all(number(1), doc("x", word("y")))}, true},
		{api.Read{Table: "t", Field: "c", Key: all(number(1), doc("x", word("z")))}, false},
		{api.Read{Table: "t", Field: "c", Key: all(number(1))}, false},
		{api.Read{Table: "t", Field: "c.0", Key: number(1)}, false},
		{api.Read{Table: "t", Field: "c", Key: nested(60000, null())}, false},
	} {
		y := l.opened(t)
		y.Reads = []api.Read{{Table: "w", All: true}, x.read}
		if is, why := disturbedAsSaid(t, y, m.state, m.blocks[3:]); is != x.want || why != api.OK {
			t.Errorf("%s: %v, error %d", show(x.read), is, why)
		}
	}
	// A field that is there and null is alike to null; one that is not there is not.
	m = l.with(t, "UPDATE t SET c = NULL WHERE a = 1")
	for field, want := range map[string]bool{"c": true, "d": false} {
		y := l.opened(t)
		y.Reads = []api.Read{{Table: "t", Field: field}}
		if is, why := disturbedAsSaid(t, y, m.state, m.blocks[3:]); is != want || why != api.OK {
			t.Errorf("null: %v, error %d", is, why)
		}
	}
}

// 16.3: blocks by hand: a table of a Read made anew, of a state that has it not; a revision of Version 0 whose document has more behind it.
func TestNewsByHand(t *testing.T) {
	s := api.State{Seq: 1, Last: 1, Tables: []api.Table{{Name: "t", Docs: []api.Doc{{Id: 1, Versions: []api.Version{{Seq: 1, Value: doc("a", number(1))}, {Seq: 1, Value: doc("a", number(2))}, {Seq: 1, Gone: true}}}}}}}
	session := func(r api.Read) api.Session {
		return api.Session{Reads: []api.Read{r}, View: api.View{Revs: []api.Rev{tableRev("x"), indexRev("x", "a")}}}
	}
	for _, x := range []struct {
		rev  api.Rev
		read api.Read
		want bool
	}{
		{putRev("t", 1, 0, doc("a", number(1))), key("t", "a", number(1)), true},
		{putRev("t", 1, 0, doc("a", number(1))), key("t", "a", number(2)), false},
		{putRev("t", 1, 0, doc("a", number(1))), key("t", "a", null()), false},
		{putRev("t", 1, 1, doc("a", number(2))), key("t", "a", number(1)), true},
		{putRev("t", 1, 1, doc("a", number(2))), key("t", "a", number(2)), true},
		{putRev("t", 1, 1, doc("a", number(2))), key("t", "a", null()), false},
		{dropRev("t", 1, 2), key("t", "a", number(2)), true},
		{dropRev("t", 1, 2), key("t", "a", number(1)), false},
		{dropRev("t", 1, 2), key("t", "a", null()), false},
		{tableRev("t"), key("t", "a", null()), true},
		{tableRev("other"), key("other", "a", null()), true},
		{tableRev("other"), key("t", "a", null()), false},
		{tableRev("x"), key("t", "a", null()), true},
		{indexRev("x", "a"), key("t", "a", null()), true},
		{indexRev("x", "b"), key("t", "a", null()), false},
		{indexRev("t", "a"), key("u", "a", null()), false},
		{indexRev("t", "b"), key("t", "a", null()), true},
	} {
		if is, why := disturbedAsSaid(t, session(x.read), s, []api.Block{block(t, 1, x.rev)}); is != x.want || why != api.OK {
			t.Errorf("%s: %v, error %d", fmt.Sprint(x.rev, x.read), is, why)
		}
	}
}
