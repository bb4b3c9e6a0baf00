package view_test

import (
	"slices"
	"testing"

	"codicil/api"
	"codicil/view"
)

// The chapter's example.
func TestExample(t *testing.T) {
	v := doesAll(t, api.View{}, "CREATE TABLE t", "INSERT INTO t {a: 1}", "UPDATE t SET a = a + 1")
	rowsAre(t, v, "SELECT a AS x FROM t", doc("x", number(2)))
}

// 15.2: CREATE.
func TestCreate(t *testing.T) {
	comes(t, api.View{}, "CREATE TABLE t", 5, nil, []api.Rev{tableRev("t")}, 4)
	comes(t, small(), "create table T", 1, nil, []api.Rev{tableRev("T")}, 0)
	comes(t, small(), "CREATE INDEX ON t (c)", 5, nil, []api.Rev{indexRev("t", "c")}, 4)
	comes(t, small(), "CREATE INDEX ON w (b)", 1, nil, []api.Rev{indexRev("w", "b")}, 0)
	v := doesAll(t, api.View{}, "CREATE TABLE t", "CREATE INDEX ON t (b)", "CREATE INDEX ON t (a)", "CREATE TABLE u")
	isRight(t, "created", v, api.State{Seq: 1, Tables: []api.Table{{Name: "t", Indexes: []string{"b", "a"}}, {Name: "u"}}})
}

// 15.2: INSERT, of the document that is one more than Last, in whatever table, Version 0.
func TestInsert(t *testing.T) {
	comes(t, small(), "INSERT INTO t {}", 9, nil, []api.Rev{putRev("t", 22, 0, doc())}, 7)
	comes(t, small(), "INSERT INTO u {b: [1, 'x'], a: 2 + 3}", 9, nil, []api.Rev{putRev("u", 22, 0, doc("a", number(5), "b", all(number(1), word("x"))))}, 1)
	v, _ := does(t, small(), "INSERT INTO t {a: 1}")
	v, _ = does(t, v, "INSERT INTO w {a: 2}")
	revsAre(t, v, "INSERT INTO t {a: 3}", putRev("t", 24, 0, doc("a", number(3))))
	dropped := doesAll(t, v, "DELETE FROM w", "DELETE FROM t")
	revsAre(t, dropped, "INSERT INTO w {a: 3}", putRev("w", 24, 0, doc("a", number(3))))
	for _, text := range []string{"5", "NULL", "'x'", "[{}]", "[]", "TRUE", "1 = 1", "{} = {}", "{a: 1} IS NULL", "-5"} {
		fails(t, small(), "INSERT INTO t "+text, 99, api.ErrType, "t")
	}
	rowsAre(t, v, "SELECT a AS a FROM w", doc("a", number(2)))
}

// 15.2: UPDATE of no row, of one, of many, with and without a condition, an index.
func TestUpdate(t *testing.T) {
	v := small()
	revsAre(t, v, "UPDATE w SET a = 1")
	revsAre(t, v, "UPDATE t SET a = 1 WHERE FALSE")
	revsAre(t, v, "UPDATE t SET a = 1 WHERE NULL")
	revsAre(t, v, "UPDATE t SET a = 1 WHERE a = 99")
	revsAre(t, v, "UPDATE t SET a = 9 WHERE b = 5", putRev("t", 2, 1, doc("a", number(9), "b", number(5))))
	revsAre(t, v, "UPDATE t SET c = b WHERE a = 1",
		putRev("t", 2, 1, doc("a", number(1), "b", number(5), "c", number(5))),
		putRev("t", 5, 2, doc("a", number(1), "b", word("x"), "c", word("x"))),
		putRev("t", 21, 1, doc("a", number(1), "b", number(7), "c", number(7))))
	revsAre(t, v, "UPDATE t SET c = NULL, a = 0 WHERE b = 1 OR b = TRUE",
		putRev("t", 3, 3, doc("a", number(0), "b", flag(true), "c", null())),
		putRev("t", 7, 1, doc("a", number(0), "b", number(1), "c", null())))
	w, r := does(t, v, "UPDATE t SET a = 0")
	if now, _ := view.Now(w); r.Count != 8 || r.Left != api.MaxFuel-16 || now.Tables[0].Docs[1].Versions[3].Seq != 10 {
		t.Errorf("all: %v, %s", r, show(now))
	}
	revsAre(t, w, "UPDATE t SET a = 1 WHERE a = 0 AND b = 5", putRev("t", 2, 2, doc("a", number(1), "b", number(5))))
}

// 15.2: each Item is of the row's Value as it was, whatever Items ahead of it made of it.
func TestItemsOfOneAnother(t *testing.T) {
	v := over([]api.Value{doc("a", number(1), "b", number(2)), doc("a", number(3)), doc("x", all(number(7)))})
	revsAre(t, v, "UPDATE t SET a = b, b = a WHERE x IS NULL",
		putRev("t", 1, 1, doc("a", number(2), "b", number(1))),
		putRev("t", 2, 1, doc("a", null(), "b", number(3))))
	revsAre(t, v, "UPDATE t SET c = a, a = c, d = c WHERE b = 2", putRev("t", 1, 1, doc("a", null(), "b", number(2), "c", number(1), "d", null())))
	revsAre(t, v, "UPDATE t SET a = a + 1, z = a, y = a WHERE a = 3", putRev("t", 2, 1, doc("a", number(4), "y", number(3), "z", number(3))))
	revsAre(t, v, "UPDATE t SET x = x.0, y = x, a = [x] WHERE NOT x IS NULL", putRev("t", 3, 1, doc("a", all(all(number(7))), "x", number(7), "y", all(number(7)))))
}

// 15.2: DELETE of no row, of one, of many, with and without a condition, an index.
func TestDelete(t *testing.T) {
	v := small()
	revsAre(t, v, "DELETE FROM w")
	revsAre(t, v, "DELETE FROM u")
	revsAre(t, v, "DELETE FROM t WHERE a = 99 AND b < 'x'")
	revsAre(t, v, "DELETE FROM t WHERE b = 5", dropRev("t", 2, 1))
	revsAre(t, v, "DELETE FROM t WHERE a = 1", dropRev("t", 2, 1), dropRev("t", 5, 2), dropRev("t", 21, 1))
	revsAre(t, v, "DELETE FROM t WHERE c IS NULL AND NOT a IS NULL", dropRev("t", 2, 1), dropRev("t", 3, 3), dropRev("t", 5, 2), dropRev("t", 21, 1))
	revsAre(t, v, "DELETE FROM t", dropRev("t", 2, 1), dropRev("t", 3, 3), dropRev("t", 5, 2), dropRev("t", 7, 1), dropRev("t", 8, 1), dropRev("t", 11, 1), dropRev("t", 20, 1), dropRev("t", 21, 1))
	w, _ := does(t, v, "DELETE FROM t")
	rowsAre(t, w, "SELECT * FROM t")
	revsAre(t, w, "DELETE FROM t")
	revsAre(t, w, "UPDATE t SET a = 1")
}

// 15.2: SELECT of documents as they are, those of Revs, too.
func TestSelect(t *testing.T) {
	v := small()
	rowsAre(t, v, "SELECT * FROM w")
	rowsAre(t, v, "SELECT * FROM u")
	rowsAre(t, v, "SELECT * FROM t WHERE a = 99")
	rowsAre(t, v, "SELECT * FROM t WHERE a = 4", doc("a", number(4), "b", flag(true)))
	rowsAre(t, v, "SELECT * FROM t WHERE a = 2")
	rowsAre(t, v, "SELECT * FROM t WHERE 1 = a", doc("a", number(1), "b", number(5)), doc("a", number(1), "b", word("x")), doc("a", number(1), "b", number(7)))
	rowsAre(t, v, "SELECT * FROM t",
		doc("a", number(1), "b", number(5)), doc("a", number(4), "b", flag(true)), doc("a", number(1), "b", word("x")), doc("b", number(1)),
		doc("a", null(), "b", word("x")), doc("a", word("1"), "c", all(number(1), null())), doc("a", number(3), "b", number(-5), "c", doc("d", word("in"))), doc("a", number(1), "b", number(7)))
	rowsAre(t, v, "SELECT b AS z, a AS a, c.d AS m FROM t WHERE NOT c IS NULL",
		doc("a", word("1"), "m", null(), "z", null()), doc("a", number(3), "m", word("in"), "z", number(-5)))
	rowsAre(t, v, "SELECT 1 AS one, {} AS two, [a] AS three FROM t WHERE a = 3", doc("one", number(1), "three", all(number(3)), "two", doc()))
}

// 15.2: HISTORY has all versions, those of Revs, too; a row has what the version is, and which.
func TestHistory(t *testing.T) {
	row := func(id, version int64, data api.Value) api.Value {
		return doc("data", data, "doc", number(id), "gone", flag(data.Kind == api.KindNull), "version", number(version))
	}
	v := small()
	rowsAre(t, v, "SELECT * FROM HISTORY(w)")
	rowsAre(t, v, "SELECT * FROM HISTORY(u)", row(1, 0, doc("a", number(1))), row(1, 1, null()), row(4, 0, doc("a", number(2))), row(4, 1, null()))
	rowsAre(t, v, "SELECT * FROM HISTORY(t) WHERE doc = 3", row(3, 0, doc("a", number(1))), row(3, 1, doc("a", number(2))), row(3, 2, doc("a", number(4), "b", flag(true))))
	rowsAre(t, v, "SELECT doc AS d FROM HISTORY(t) WHERE gone", doc("d", number(6)))
	rowsAre(t, v, "SELECT data.a AS a, doc AS d, version AS v FROM HISTORY(t) WHERE data.a = 2", doc("a", number(2), "d", number(3), "v", number(1)), doc("a", number(2), "d", number(5), "v", number(0)))
	rowsAre(t, v, "SELECT a AS x, data AS y FROM HISTORY(t) WHERE version > 1", doc("x", null(), "y", doc("a", number(4), "b", flag(true))))
	rowsAre(t, v, "SELECT * FROM HISTORY(t) WHERE a = 1")
	rowsAre(t, v, "SELECT version AS v, doc AS d FROM HISTORY(u) ORDER BY v DESC",
		doc("d", number(1), "v", number(1)), doc("d", number(4), "v", number(1)), doc("d", number(1), "v", number(0)), doc("d", number(4), "v", number(0)))
	great := over(nil)
	great.Base.Last = 1 << 62
	great.Base.Tables[0].Docs = []api.Doc{{Id: 1 << 62, Versions: versions(1, doc())}}
	rowsAre(t, great, "SELECT * FROM HISTORY(t)", row(1<<62, 0, doc()))
}

// 15.2: ORDER BY a field of the rows, not of the documents; null where there is none; those alike in their order, DESC or not.
func TestOrder(t *testing.T) {
	v := over([]api.Value{
		doc("a", number(2), "n", number(1)), doc("a", word("b"), "n", number(2)), doc("n", number(3)), doc("a", number(1), "n", number(4)), doc("a", null(), "n", number(5)),
		doc("a", number(2), "n", number(6)), doc("a", flag(true), "n", number(7)), doc("a", all(), "n", number(8)), doc("a", doc(), "n", number(9)), doc("a", word("a"), "n", number(10)),
		doc("a", flag(false), "n", number(11)), doc("a", blob(""), "n", number(12)), doc("a", word("b"), "n", number(13)), doc("a", all(null()), "n", number(14)),
	})
	order := func(text string, want ...int64) {
		t.Helper()
		_, r := does(t, v, text)
		var got []int64
		for _, row := range r.Rows {
			at := slices.IndexFunc(row.Fields, func(f api.Field) bool { return f.Name == "n" })
			got = append(got, row.Fields[at].Value.N)
		}
		if !slices.Equal(got, want) {
			t.Errorf("%s: %v, not %v", text, got, want)
		}
	}
	for _, what := range []string{"*", "a AS a, n AS n"} {
		order("SELECT "+what+" FROM t", 1, 2, 3, 4, 5, 6, 7, 8, 9, 10, 11, 12, 13, 14)
		order("SELECT "+what+" FROM t ORDER BY a", 3, 5, 11, 7, 4, 1, 6, 10, 2, 13, 12, 8, 14, 9)
		order("SELECT "+what+" FROM t ORDER BY a DESC", 9, 14, 8, 12, 2, 13, 10, 1, 6, 4, 7, 11, 3, 5)
		order("SELECT "+what+" FROM t ORDER BY n", 1, 2, 3, 4, 5, 6, 7, 8, 9, 10, 11, 12, 13, 14)
		order("SELECT "+what+" FROM t ORDER BY n DESC", 14, 13, 12, 11, 10, 9, 8, 7, 6, 5, 4, 3, 2, 1)
		order("SELECT "+what+" FROM t ORDER BY nothing", 1, 2, 3, 4, 5, 6, 7, 8, 9, 10, 11, 12, 13, 14)
		order("SELECT "+what+" FROM t ORDER BY nothing DESC", 1, 2, 3, 4, 5, 6, 7, 8, 9, 10, 11, 12, 13, 14)
		order("SELECT "+what+" FROM t WHERE a = 2 OR a = 1 ORDER BY a DESC", 1, 6, 4)
	}
	order("SELECT n AS n, 0 - n AS a FROM t WHERE n < 4 ORDER BY a", 3, 2, 1)
	order("SELECT n AS n FROM t WHERE n < 4 ORDER BY a", 1, 2, 3)
	rowsAre(t, v, "SELECT n AS x FROM t WHERE a IS NULL ORDER BY x DESC", doc("x", number(5)), doc("x", number(3)))
	rowsAre(t, v, "SELECT * FROM t WHERE n = 99 ORDER BY n")
}

// 15.2: up to MaxRows rows, ordered, and one more; a row that does not hold does not count.
func TestMaxRows(t *testing.T) {
	v := over(many(api.MaxDocs, func(i int) api.Value { return doc("a", number(int64(i*7%256))) }))
	_, r := does(t, v, "SELECT * FROM t")
	if len(r.Rows) != api.MaxRows || r.Left != api.MaxFuel-256 || r.Count != 0 {
		t.Errorf("%d rows, %d left", len(r.Rows), r.Left)
	}
	_, r = does(t, v, "SELECT a AS a FROM t ORDER BY a DESC")
	for i, row := range r.Rows {
		if !same(row, doc("a", number(int64(255-i)))) {
			t.Fatalf("row %d: %v", i, row)
		}
	}
	_, r = does(t, v, "SELECT * FROM HISTORY(t)")
	if len(r.Rows) != api.MaxRows {
		t.Errorf("%d rows", len(r.Rows))
	}
	v, _ = does(t, v, "DELETE FROM t WHERE a = 0")
	fails(t, v, "SELECT * FROM HISTORY(t)", api.MaxFuel, api.ErrMany, "t")
	fails(t, v, "SELECT version AS v FROM HISTORY(t) ORDER BY v", api.MaxFuel, api.ErrMany, "t")
	fails(t, v, "SELECT * FROM HISTORY(t)", 257, api.ErrMany, "t")
	fails(t, v, "SELECT * FROM HISTORY(t)", 256, api.ErrFuel, "t")
	_, r = does(t, v, "SELECT * FROM HISTORY(t) WHERE NOT gone")
	if len(r.Rows) != api.MaxRows {
		t.Errorf("%d rows", len(r.Rows))
	}
	_, r = does(t, v, "SELECT * FROM HISTORY(t) WHERE doc > 1")
	if len(r.Rows) != api.MaxRows-1 {
		t.Errorf("%d rows", len(r.Rows))
	}
	_, r = does(t, v, "SELECT * FROM t")
	if len(r.Rows) != api.MaxRows-1 {
		t.Errorf("%d rows", len(r.Rows))
	}
}

// 15.2: what is there now is behind all statements ahead of it, indexes included.
func TestOneBehindAnother(t *testing.T) {
	v := doesAll(t, api.View{}, "CREATE TABLE t", "INSERT INTO t {a: 1}", "INSERT INTO t {a: 2}")
	rowsAre(t, v, "SELECT * FROM t WHERE a = 2", doc("a", number(2)))
	v = doesAll(t, v, "CREATE INDEX ON t (a)", "UPDATE t SET a = 3 WHERE a = 2", "INSERT INTO t {a: 3, b: 1}", "DELETE FROM t WHERE a = 1", "INSERT INTO t {a: 2}")
	rowsAre(t, v, "SELECT * FROM t WHERE a = 1")
	rowsAre(t, v, "SELECT * FROM t WHERE a = 2", doc("a", number(2)))
	rowsAre(t, v, "SELECT * FROM t WHERE a = 3", doc("a", number(3)), doc("a", number(3), "b", number(1)))
	want := []api.Rev{tableRev("t"), putRev("t", 1, 0, doc("a", number(1))), putRev("t", 2, 0, doc("a", number(2))), indexRev("t", "a"), putRev("t", 2, 1, doc("a", number(3))), putRev("t", 3, 0, doc("a", number(3), "b", number(1))), dropRev("t", 1, 1), putRev("t", 4, 0, doc("a", number(2)))}
	if !same(v, api.View{Revs: want}) {
		t.Errorf("%s", show(v))
	}
}
