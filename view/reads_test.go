package view_test

import (
	"testing"

	"codicil/api"
)

// hangs fails, unless a statement has no error, and hangs on just that.
func hangs(t *testing.T, v api.View, text string, want ...api.Read) {
	t.Helper()
	if got := asSaid(t, v, text, api.MaxFuel); got.Why != api.OK || !same(got.Reads, want) {
		t.Errorf("%s hangs on %s, error %d, not on %s", text, show(got.Reads), got.Why, show(want))
	}
}

func allOf(table string) api.Read { return api.Read{Table: table, All: true} }

func key(table, field string, v api.Value) api.Read {
	return api.Read{Table: table, Field: field, Key: v}
}

// 15.2: what a statement without an error hangs on, whether it looks at rows or not.
func TestHangsOn(t *testing.T) {
	v := small()
	hangs(t, v, "CREATE TABLE new")
	hangs(t, v, "CREATE INDEX ON t (c)")
	hangs(t, v, "INSERT INTO t {a: 1}")
	for _, x := range []struct {
		condition string
		want      api.Read
	}{
		{"", allOf("t")},
		{" WHERE TRUE", allOf("t")},
		{" WHERE a = 1", key("t", "a", number(1))},
		{" WHERE 1 = a", key("t", "a", number(1))},
		{" WHERE a = -1", key("t", "a", number(-1))},
		{" WHERE a = 'x'", key("t", "a", word("x"))},
		{" WHERE a = ''", key("t", "a", word(""))},
		{" WHERE b = FALSE", key("t", "b", flag(false))},
		{" WHERE a = 99", key("t", "a", number(99))},
		{" WHERE b = 5 AND a = 1", key("t", "b", number(5))},
		{" WHERE a = 1 AND (b = 5 OR c IS NULL)", key("t", "a", number(1))},
		{" WHERE a = 1 OR b = 5", allOf("t")},
		{" WHERE c = 1", allOf("t")},
		{" WHERE c = 1 AND a = 1", allOf("t")},
		{" WHERE NOT a = 1", allOf("t")},
		{" WHERE a <> 1", allOf("t")},
		{" WHERE a = NULL", allOf("t")},
		{" WHERE a = b", allOf("t")},
		{" WHERE a = 1 + 1", allOf("t")},
		{" WHERE a.b = 1", allOf("t")},
		{" WHERE a IS NULL", allOf("t")},
	} {
		hangs(t, v, "SELECT * FROM t"+x.condition, x.want)
		hangs(t, v, "SELECT a AS b FROM t"+x.condition+" ORDER BY b", x.want)
		hangs(t, v, "UPDATE t SET a = 7"+x.condition, x.want)
		hangs(t, v, "DELETE FROM t"+x.condition, x.want)
		hangs(t, v, "SELECT * FROM HISTORY(t)"+x.condition, allOf("t"))
	}
	for _, text := range []string{"SELECT * FROM u WHERE a = 1", "DELETE FROM u WHERE a = 1", "UPDATE u SET a = 1 WHERE a = 1", "SELECT * FROM u"} {
		hangs(t, v, text, allOf("u"))
	}
	hangs(t, v, "SELECT * FROM w WHERE a = 1", key("w", "a", number(1)))
	hangs(t, v, "DELETE FROM w", allOf("w"))
	// An index of a Rev counts as one of the Base.
	hangs(t, doesAll(t, v, "CREATE INDEX ON u (a)"), "DELETE FROM u WHERE a = 1", key("u", "a", number(1)))
	hangs(t, doesAll(t, v, "CREATE TABLE x", "CREATE INDEX ON x (f)"), "DELETE FROM x WHERE f = 1", key("x", "f", number(1)))
}

// 15.2: what has an error hangs on all of its table, be it there or not, whatever the statement is, with a key or without.
func TestHangsOnWithAnError(t *testing.T) {
	v := small()
	for text, table := range map[string]string{
		"SELECT * FROM no WHERE a = 1": "no", "CREATE INDEX ON no (a)": "no", "INSERT INTO no {}": "no", "CREATE TABLE t": "t", "CREATE INDEX ON t (a)": "t",
		"INSERT INTO t 5": "t", "INSERT INTO u 5": "u", "SELECT * FROM t WHERE a = 1 AND b < 'y'": "t", "UPDATE t SET a = -b WHERE a = 1": "t",
		"DELETE FROM t WHERE a = 1 AND a": "t", "SELECT a + 'x' AS x FROM t WHERE a = 4": "t", "UPDATE t SET a = '" + xs(1015) + "' WHERE a = 1": "t",
	} {
		got := asSaid(t, v, text, api.MaxFuel)
		if got.Why == api.OK || !same(got.Reads, []api.Read{allOf(table)}) || !same(got.Result, api.Result{}) || !same(got.View, v) {
			t.Errorf("%s: %s", text, show(got))
		}
	}
	for _, text := range []string{"SELECT * FROM t WHERE a = 1", "UPDATE t SET a = 1 WHERE a = 1", "DELETE FROM t WHERE a = 1", "INSERT INTO t {}", "CREATE INDEX ON t (c)"} {
		fails(t, v, text, 0, api.ErrFuel, "t")
	}
	fails(t, v, "CREATE TABLE new", 0, api.ErrFuel, "new")
}
