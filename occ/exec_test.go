package occ_test

import (
	"strings"
	"testing"

	"codicil/api"
	"codicil/view"
)

func allOf(table string) api.Read { return api.Read{Table: table, All: true} }

func key(table, field string, v api.Value) api.Read {
	return api.Read{Table: table, Field: field, Key: v}
}

// 16.2: a session has what its statements brought, their texts, and what they hung on, in order.
func TestExec(t *testing.T) {
	l := small(t)
	x := l.opened(t)
	x.Id = 42
	texts := []string{
		"INSERT INTO t {a: 7}", "SELECT * FROM t WHERE a = 1", "select  a AS a from u", "UPDATE t SET b = 2 WHERE a = 7", "DELETE FROM t WHERE b = 5 AND a IS NULL", "CREATE TABLE more", "CREATE INDEX ON more (f)",
		"SELECT * FROM nothing", "INSERT INTO t 5", "SELECT a < 'x' AS a FROM t WHERE a = 1", "CREATE TABLE t",
	}
	errors := []api.Errno{0, 0, 0, 0, 0, 0, 0, api.ErrName, api.ErrType, api.ErrType, api.ErrTwice}
	for i, text := range texts {
		was := x
		got := execAsSaid(t, x, text, 100)
		if got.Why != errors[i] || got.Session.Dead {
			t.Errorf("%s: error %d, %v", text, got.Why, got.Session.Dead)
		}
		v, r, _, _ := view.Exec(was.View, text, 100)
		if !same(got.Result, r) || !same(got.Session.View, v) {
			t.Errorf("%s: %s", text, show(got))
		}
		x = got.Session
	}
	want := api.Session{Id: 42, Statements: texts,
		View:  api.View{Base: l.state, Revs: []api.Rev{putRev("t", 7, 0, doc("a", number(7))), putRev("t", 7, 1, doc("a", number(7), "b", number(2))), dropRev("t", 5, 1), tableRev("more"), indexRev("more", "f")}},
		Reads: []api.Read{key("t", "a", number(1)), allOf("u"), key("t", "a", number(7)), key("t", "b", number(5)), allOf("nothing"), allOf("t"), allOf("t"), allOf("t")},
	}
	if !same(x, want) {
		t.Errorf("%s, not %s", show(x), show(want))
	}
}

// 16.2: errors that leave a session as it was, one ahead of the other.
func TestRefused(t *testing.T) {
	texts := map[string]api.Errno{
		"": api.ErrSyntax, "SELECT": api.ErrSyntax, "nothing": api.ErrSyntax, "'\xff'": api.ErrUtf, "\xff": api.ErrSyntax, "SELECT '\xff' AS a FROM t": api.ErrUtf,
		xs(1025): api.ErrSyntax, xs(api.MaxBytes + 1): api.ErrLong, "SELECT 1 AS a, 1 AS a FROM t": api.ErrTwice, "INSERT INTO t " + strings.Repeat("[", 17): api.ErrDepth,
		"INSERT INTO t [" + strings.Repeat("1,", 64) + "1]": api.ErrMany, "SELECT * FROM t WHERE a = '" + xs(1025) + "'": api.ErrLong, "SELECT" + strings.Repeat(" ", 1025): api.ErrSyntax,
		"SELECT '\xff" + xs(1024) + "' AS a FROM t": api.ErrLong, "no" + strings.Repeat(" ", 1025) + "'\xff'": api.ErrUtf,
	}
	full := small(t).opened(t, "INSERT INTO t {a: 7}")
	full.Statements = many(64, name)
	read := small(t).opened(t, "INSERT INTO t {a: 7}")
	read.Reads = make([]api.Read, 64)
	for _, x := range []api.Session{small(t).opened(t), small(t).opened(t, "INSERT INTO t {a: 7}", "SELECT * FROM t"), full, read} {
		for text, why := range texts {
			for _, fuel := range []int{0, 1, api.MaxFuel} {
				if got := execAsSaid(t, x, text, fuel); !same(got, told{Session: x, Why: why}) {
					t.Errorf("%s: %s, not error %d", show(text), show(got), why)
				}
			}
		}
		texts["SELECT * FROM t"], texts["INSERT INTO t 5"], texts["SELECT * FROM t"+strings.Repeat(" ", 1025)] = 0, 0, 0
		for text := range texts {
			for _, fuel := range []int{-1 << 31, -1, api.MaxFuel + 1, 1 << 31} {
				if got := execAsSaid(t, x, text, fuel); !same(got, told{Session: x, Why: api.ErrRange}) {
					t.Errorf("%s with %d: %s", show(text), fuel, show(got))
				}
			}
			dead := x
			dead.Dead = true
			for _, fuel := range []int{-1, 0, 99, api.MaxFuel + 1} {
				if got := execAsSaid(t, dead, text, fuel); !same(got, told{Session: dead, Why: api.ErrState}) {
					t.Errorf("%s, dead: %s", show(text), show(got))
				}
			}
		}
		for _, text := range []string{"SELECT * FROM t", "INSERT INTO t 5", "SELECT * FROM t" + strings.Repeat(" ", 1025)} {
			delete(texts, text)
		}
	}
}

// kills fails, unless a statement has that error, and the session is dead then, and else as it was.
func kills(t *testing.T, x api.Session, text string, fuel int, why api.Errno) {
	t.Helper()
	want := twin(x)
	want.Dead = true
	if got := execAsSaid(t, x, text, fuel); !same(got, told{Session: want, Why: why}) {
		t.Errorf("%s: %s, not error %d", show(text), show(got), why)
	}
}

// 16.2: statements that a session has no room for: it is dead then, and else as it was.
func TestNoRoom(t *testing.T) {
	x := small(t).opened(t, "INSERT INTO t {a: 7}", "SELECT * FROM t")
	long := func(n int, text string) string { return text + strings.Repeat(" ", n-len(text)) }
	for _, text := range []string{"SELECT * FROM t", "INSERT INTO t {a: 1}", "CREATE TABLE more", "SELECT * FROM nothing", "INSERT INTO t 5", "SELECT 'é' AS a FROM t"} {
		got := execAsSaid(t, x, long(api.MaxText, text), api.MaxFuel)
		if got.Session.Dead || len(got.Session.Statements) != 3 || got.Session.Statements[2] != long(api.MaxText, text) {
			t.Errorf("MaxText: %s", show(got))
		}
		kills(t, x, long(api.MaxText+1, text), api.MaxFuel, api.ErrLong)
		kills(t, x, long(api.MaxText+1, text), 0, api.ErrLong)
		kills(t, x, long(api.MaxBytes, text), 9, api.ErrLong)
	}
	for _, text := range []string{"SELECT * FROM t", "INSERT INTO t {a: 1}", "SELECT * FROM nothing", "INSERT INTO t 5"} {
		almost, full := twin(x), twin(x)
		almost.Statements, full.Statements = many(63, name), many(64, name)
		if got := execAsSaid(t, almost, text, 99); len(got.Session.Statements) != 64 || got.Session.Dead {
			t.Errorf("63 Statements: %s", show(got))
		}
		kills(t, full, text, 99, api.ErrMany)
		kills(t, full, text, 0, api.ErrMany)
		kills(t, full, long(api.MaxText+1, text), 9, api.ErrLong)
		almost, full = twin(x), twin(x)
		almost.Reads, full.Reads = make([]api.Read, 63), make([]api.Read, 64)
		got := execAsSaid(t, almost, text, 99)
		reads := 64
		if text == "INSERT INTO t {a: 1}" {
			reads = 63
		}
		if got.Session.Dead || len(got.Session.Reads) != reads {
			t.Errorf("63 Reads: %s", show(got))
		}
		kills(t, full, text, 99, api.ErrMany)
		kills(t, full, long(api.MaxText+1, text), 9, api.ErrLong)
	}
	x = small(t).opened(t)
	for range api.MaxParts {
		x = execAsSaid(t, x, "SELECT * FROM t WHERE a = 1", 99).Session
	}
	if len(x.Statements) != api.MaxParts || len(x.Reads) != api.MaxParts || x.Dead {
		t.Fatalf("MaxParts: %s", show(x))
	}
	kills(t, x, "SELECT * FROM t WHERE a = 1", 99, api.ErrMany)
	kills(t, x, "INSERT INTO t {}", 99, api.ErrMany)
}

// 16.2: which errors of a statement make a session dead: its text and what it hung on are there all the same.
func TestDeadByStatements(t *testing.T) {
	wide := doc()
	for i := range api.MaxParts {
		wide.Fields = append(wide.Fields, api.Field{Name: "f" + string(rune('A'+i)), Value: number(1)})
	}
	great := api.State{Seq: 1, Last: 300, Tables: many(16, func(i int) api.Table { return api.Table{Name: name(i)} })}
	great.Tables[0].Docs = many(256, func(i int) api.Doc {
		return api.Doc{Id: uint64(i + 1), Versions: versions(1, doc("a", number(1)), null())[:1]}
	})
	great.Tables[0].Docs[9].Versions = append(great.Tables[0].Docs[9].Versions, api.Version{Seq: 1, Value: doc("a", nested(5, null()))})
	great.Tables[1].Docs = []api.Doc{{Id: 257, Versions: versions(1, wide)}, {Id: 258, Versions: versions(1, doc("a", word(xs(1000))))}}
	great.Tables[2].Indexes = many(8, name)
	x := line{state: great}.opened(t)
	for _, c := range []struct {
		text string
		fuel int
		why  api.Errno
		dead bool
	}{
		{"SELECT * FROM n0", 9, api.ErrFuel, true},
		{"INSERT INTO n0 {}", 0, api.ErrFuel, true},
		{"DELETE FROM n0 WHERE a = 1", 9, api.ErrFuel, true},
		{"SELECT * FROM HISTORY(n0) WHERE doc > 10 OR doc < 9", api.MaxFuel, api.ErrDepth, false},
		{"SELECT * FROM n0", api.MaxFuel, api.OK, false},
		{"DELETE FROM n0", api.MaxFuel, api.ErrFull, true},
		{"UPDATE n0 SET a = 1", api.MaxFuel, api.ErrFull, true},
		{"INSERT INTO n0 {}", 9, api.ErrFull, true},
		{"CREATE TABLE more", 9, api.ErrFull, true},
		{"CREATE INDEX ON n2 (a)", 9, api.ErrFull, true},
		{"UPDATE n1 SET g = 1 WHERE fA = 1", 99, api.ErrMany, true},
		{"UPDATE n1 SET g = a WHERE NOT fA = 1", 99, api.OK, false},
		{"UPDATE n1 SET g = a WHERE a = a", 99, api.ErrLong, false},
		{"SELECT * FROM nothing", 0, api.ErrName, false},
		{"CREATE TABLE n3", 0, api.ErrTwice, false},
		{"CREATE INDEX ON n2 (n3)", 0, api.ErrTwice, false},
		{"INSERT INTO n3 5", 99, api.ErrType, false},
		{"SELECT a < 1 AS x FROM n1", 99, api.ErrType, false},
		{"INSERT INTO n3 {a: 9223372036854775807 + 1}", 99, api.ErrOver, false},
		{"SELECT [[[[[[a]]]]]] AS x FROM n1", 99, api.ErrDepth, false},
	} {
		got := execAsSaid(t, x, c.text, c.fuel)
		if got.Why != c.why || got.Session.Dead != c.dead || len(got.Session.Statements) != 1 || c.why != api.OK && (len(got.Session.Reads) != 1 || !got.Session.Reads[0].All) {
			t.Errorf("%s with %d: %s", c.text, c.fuel, show(got))
		}
		if again := execAsSaid(t, got.Session, "SELECT * FROM n3", 9); c.dead != (again.Why == api.ErrState) {
			t.Errorf("%s, then: %s", c.text, show(again))
		}
	}
	// ErrMany of rows: one version more than there may be rows.
	for i := range great.Tables[0].Docs {
		great.Tables[0].Docs[i].Versions = versions(1, doc())
	}
	great.Tables[0].Docs[0].Versions = append(great.Tables[0].Docs[0].Versions, api.Version{Seq: 1, Gone: true})
	if got := execAsSaid(t, line{state: great}.opened(t), "SELECT * FROM HISTORY(n0)", api.MaxFuel); got.Why != api.ErrMany || !got.Session.Dead {
		t.Errorf("%s", show(got))
	}
}
