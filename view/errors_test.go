package view_test

import (
	"fmt"
	"strings"
	"testing"

	"codicil/api"
)

// 15.2: a text that is no statement: the view as it was, and nothing else, whatever the fuel is.
func TestNoStatement(t *testing.T) {
	for text, why := range map[string]api.Errno{
		"": api.ErrSyntax, "SELECT": api.ErrSyntax, "nothing": api.ErrSyntax, "SELECT * FROM t;": api.ErrSyntax, "SELECT * FROM t WHERE": api.ErrSyntax, "INSERT INTO t {a: b}": api.ErrSyntax, "DELETE FROM t ORDER BY a": api.ErrSyntax, "\xff": api.ErrSyntax,
		"SELECT '\xff' AS a FROM t":                         api.ErrUtf,
		"SELECT '" + xs(1025) + "' AS a FROM t":             api.ErrLong,
		xs(api.MaxBytes + 1):                                api.ErrLong,
		"SELECT 1 AS a, 2 AS a FROM t":                      api.ErrTwice,
		"UPDATE t SET a = 1, a = 2":                         api.ErrTwice,
		"DELETE FROM t WHERE " + strings.Repeat("(", 17):    api.ErrDepth,
		"INSERT INTO t [" + strings.Repeat("1,", 64) + "1]": api.ErrMany,
	} {
		for _, v := range []api.View{{}, small()} {
			for _, fuel := range []int{0, 1, api.MaxFuel} {
				if got := asSaid(t, v, text, fuel); !same(got, answer{View: v, Why: why}) {
					t.Errorf("%s: %s, not error %d", show(text), show(got), why)
				}
			}
			for _, fuel := range []int{-1, api.MaxFuel + 1} {
				if got := asSaid(t, v, text, fuel); !same(got, answer{Why: api.ErrRange}) {
					t.Errorf("%s: %s", show(text), show(got))
				}
			}
		}
	}
}

// 15.2: names that are not known, or known already; ahead of all that costs fuel.
func TestNames(t *testing.T) {
	for _, fuel := range []int{0, 1, 99} {
		for _, text := range []string{"SELECT * FROM no", "SELECT * FROM HISTORY(no)", "UPDATE no SET a = 1", "DELETE FROM no", "INSERT INTO no {}", "INSERT INTO no 5", "CREATE INDEX ON no (a)", "SELECT * FROM no WHERE a < 'x'"} {
			fails(t, small(), text, fuel, api.ErrName, "no")
			fails(t, api.View{}, text, fuel, api.ErrName, "no")
		}
		fails(t, small(), "SELECT * FROM T", fuel, api.ErrName, "T")
		fails(t, small(), "CREATE TABLE t", fuel, api.ErrTwice, "t")
		fails(t, small(), "CREATE TABLE w", fuel, api.ErrTwice, "w")
		fails(t, small(), "CREATE INDEX ON t (b)", fuel, api.ErrTwice, "t")
		v := doesAll(t, api.View{}, "CREATE TABLE x", "CREATE INDEX ON x (f)")
		fails(t, v, "CREATE TABLE x", fuel, api.ErrTwice, "x")
		fails(t, v, "CREATE INDEX ON x (f)", fuel, api.ErrTwice, "x")
	}
}

// wrongs are expressions with an error of their own, of a document in which a is 1.
var wrongs = []struct {
	expr string
	why  api.Errno
}{
	{"a < 'x'", api.ErrType},
	{"9223372036854775807 + a = 1", api.ErrOver},
	{"[[[[[[[a]]]]]]] = a", api.ErrDepth},
}

// 15.2: errors of a condition and of Items; of two the first one that is met, at one row or at two.
func TestErrorsOfExpressions(t *testing.T) {
	one := over([]api.Value{doc("a", number(1))})
	for _, x := range wrongs {
		for _, text := range []string{"SELECT * FROM t WHERE %s", "SELECT 1 AS z FROM t WHERE %s", "SELECT %s AS z FROM t", "SELECT 1 AS y, %s AS z FROM t", "UPDATE t SET b = 1 WHERE %s", "UPDATE t SET b = %s", "UPDATE t SET b = 1, c = %s", "DELETE FROM t WHERE %s", "SELECT * FROM t WHERE a = 1 AND %s"} {
			fails(t, one, fmt.Sprintf(text, x.expr), 99, x.why, "t")
			fails(t, over([]api.Value{doc("a", number(1))}, "a"), fmt.Sprintf(text, x.expr), 99, x.why, "t")
		}
		for _, y := range wrongs {
			fails(t, one, "SELECT "+y.expr+" AS z FROM t WHERE "+x.expr, 99, x.why, "t")
			fails(t, one, "UPDATE t SET z = "+y.expr+" WHERE "+x.expr, 99, x.why, "t")
			fails(t, one, "SELECT "+x.expr+" AS z, "+y.expr+" AS a FROM t", 99, x.why, "t")
			fails(t, one, "UPDATE t SET z = "+x.expr+", a = "+y.expr, 99, x.why, "t")
			// Only the first row's second part is looked at, then only the second row's.
			two := over([]api.Value{doc("a", number(1), "n", number(1)), doc("a", number(1), "n", number(2)), doc("a", number(1), "n", number(3))})
			either := fmt.Sprintf("(n = 2 AND %s) OR (n = 3 AND %s)", x.expr, y.expr)
			for _, text := range []string{"SELECT * FROM t WHERE %s", "SELECT %s AS z FROM t", "UPDATE t SET b = %s", "DELETE FROM t WHERE %s"} {
				fails(t, two, fmt.Sprintf(text, either), 99, x.why, "t")
			}
			fails(t, two, "SELECT (n = 2 AND "+x.expr+") AS z FROM t WHERE n < 3 OR "+y.expr, 99, x.why, "t")
			fails(t, two, "UPDATE t SET z = (n = 3 AND "+x.expr+") WHERE n <> 2 OR "+y.expr, 99, y.why, "t")
		}
	}
	for _, text := range []string{"SELECT * FROM t WHERE a", "SELECT * FROM t WHERE 'x'", "UPDATE t SET a = 1 WHERE a", "DELETE FROM t WHERE a", "DELETE FROM t WHERE {}"} {
		fails(t, one, text, 99, api.ErrType, "t")
		does(t, over(nil), text)
	}
	fails(t, one, "INSERT INTO t {a: 1 + 'x'}", 99, api.ErrType, "t")
	fails(t, one, "INSERT INTO t {a: 9223372036854775807 * 2}", 99, api.ErrOver, "t")
	fails(t, one, "INSERT INTO t [[[[[[[1]]]]]]]", 99, api.ErrDepth, "t")
	rowsAre(t, one, "SELECT * FROM t WHERE FALSE AND a < 'x'")
	rowsAre(t, one, "SELECT 1 < 'x' AS z FROM t WHERE a = 2")
}

// 15.2: a SELECT's row that is not right: one of HISTORY around a value that is as deep as may be, one of an Item that is.
func TestRowsTooDeep(t *testing.T) {
	deep := doc("a", nested(4, all(number(1))))
	v := over([]api.Value{doc("a", number(1)), deep}, "a")
	rowsAre(t, v, "SELECT * FROM t", doc("a", number(1)), deep)
	rowsAre(t, v, "SELECT a AS x FROM t WHERE NOT a = 1", doc("x", nested(5, number(1))))
	fails(t, v, "SELECT [a] AS x FROM t", 99, api.ErrDepth, "t")
	rowsAre(t, v, "SELECT [a] AS x FROM t WHERE a = 1", doc("x", all(number(1))))
	for _, text := range []string{"SELECT * FROM HISTORY(t)", "SELECT * FROM HISTORY(t) WHERE doc = 1", "SELECT doc AS d FROM HISTORY(t)", "SELECT doc AS d FROM HISTORY(t) WHERE doc = 1"} {
		fails(t, v, text, 99, api.ErrDepth, "t")
	}
	// The row is looked at ahead of the fuel that a condition or an Item takes, behind the one that it takes itself.
	alone := over([]api.Value{deep})
	for _, text := range []string{"SELECT * FROM HISTORY(t)", "SELECT * FROM HISTORY(t) WHERE doc = 1", "SELECT doc AS d FROM HISTORY(t)"} {
		fails(t, alone, text, 0, api.ErrFuel, "t")
		fails(t, alone, text, 1, api.ErrDepth, "t")
	}
}

// 15.2: value.Check of a row ahead of ErrMany, and ErrMany ahead of what is behind it.
func TestManyOrDeep(t *testing.T) {
	values := many(api.MaxDocs, func(i int) api.Value { return doc("a", number(int64(i))) })
	v := over(values)
	last := &v.Base.Tables[0].Docs[255]
	last.Versions = append(last.Versions, api.Version{Seq: 1, Value: doc("a", nested(5, null()))})
	fails(t, v, "SELECT * FROM HISTORY(t)", api.MaxFuel, api.ErrDepth, "t")
	fails(t, v, "SELECT doc AS d FROM HISTORY(t)", api.MaxFuel, api.ErrDepth, "t")
	last.Versions[1].Value = doc("a", nested(4, null()))
	fails(t, v, "SELECT * FROM HISTORY(t)", api.MaxFuel, api.ErrMany, "t")
	fails(t, v, "SELECT [data.a] AS d FROM HISTORY(t)", api.MaxFuel, api.ErrMany, "t")
	fails(t, v, "SELECT [[data.a]] AS d FROM HISTORY(t)", api.MaxFuel, api.ErrDepth, "t")
	fails(t, v, "SELECT version < 'x' AS d FROM HISTORY(t) WHERE doc = 256 OR version = 0", api.MaxFuel, api.ErrType, "t")
	fails(t, v, "SELECT version = 1 AND version < 'x' AS d FROM HISTORY(t)", api.MaxFuel, api.ErrType, "t")
	last.Versions = append(last.Versions, api.Version{Seq: 1, Value: doc("a", nested(5, null()))})
	fails(t, v, "SELECT * FROM HISTORY(t)", api.MaxFuel, api.ErrMany, "t")
}

// 15.2: what table.Do refuses, behind all rows: values that are too much for a revision.
func TestRefusedByTable(t *testing.T) {
	full := doc()
	for i := range api.MaxParts {
		full.Fields = append(full.Fields, api.Field{Name: fmt.Sprintf("f%02d", i), Value: number(1)})
	}
	v := over([]api.Value{doc("a", word(xs(900))), full, doc("a", nested(5, number(1)))})
	fails(t, v, "UPDATE t SET b = a", 99, api.ErrLong, "t")
	fails(t, v, "UPDATE t SET b = 1 WHERE f00 = 1", 99, api.ErrMany, "t")
	revsAre(t, v, "UPDATE t SET f63 = 1 WHERE f00 = 1", putRev("t", 2, 1, full))
	fails(t, v, "UPDATE t SET b = [a] WHERE NOT a IS NULL AND NOT a = '"+xs(900)+"'", 99, api.ErrDepth, "t")
	fails(t, v, "UPDATE t SET b = 1 WHERE NOT a IS NULL AND NOT a = '"+xs(900)+"'", 99, api.ErrLong, "t")
	revsAre(t, v, "DELETE FROM t", dropRev("t", 1, 1), dropRev("t", 2, 1), dropRev("t", 3, 1))
	fails(t, v, "INSERT INTO t {a: '"+xs(1000)+"', b: '"+xs(1000)+"'}", 99, api.ErrLong, "t")
	fails(t, v, "INSERT INTO t {a: [[[[[1]]]]]}", 99, api.ErrLong, "t")
	revsAre(t, v, "INSERT INTO t {a: [[[[1]]]]}", putRev("t", 4, 0, doc("a", nested(4, number(1)))))
	// The first of two that are refused is the error.
	fails(t, v, "UPDATE t SET b = a WHERE NOT f00 = 1 OR f00 IS NULL", 99, api.ErrLong, "t")
	turned := over([]api.Value{full, doc("a", word(xs(900)))})
	fails(t, turned, "UPDATE t SET b = a", 99, api.ErrMany, "t")
	// An error of a later row is met ahead of them.
	fails(t, v, "UPDATE t SET b = a, c = f00 < 'x'", 99, api.ErrType, "t")
	fails(t, v, "UPDATE t SET b = a", 5, api.ErrFuel, "t")
	fails(t, v, "UPDATE t SET b = a", 6, api.ErrLong, "t")
}

// 15.2: MaxTables, MaxFields, MaxDocs, and the last Id.
func TestLimitsOfTables(t *testing.T) {
	v := api.View{Base: api.State{Tables: many(api.MaxTables-1, func(i int) api.Table { return api.Table{Name: name(i)} })}}
	v, _ = does(t, v, "CREATE TABLE t")
	fails(t, v, "CREATE TABLE u", 9, api.ErrFull, "u")
	fails(t, v, "CREATE TABLE u", 0, api.ErrFuel, "u")
	fails(t, v, "CREATE TABLE t", 9, api.ErrTwice, "t")
	v = over(nil, many(api.MaxFields-1, name)...)
	v, _ = does(t, v, "CREATE INDEX ON t (a)")
	fails(t, v, "CREATE INDEX ON t (b)", 9, api.ErrFull, "t")
	fails(t, v, "CREATE INDEX ON t (a)", 9, api.ErrTwice, "t")
	v = over(many(api.MaxDocs-1, func(i int) api.Value { return doc() }))
	v, _ = does(t, v, "INSERT INTO t {}")
	fails(t, v, "INSERT INTO t {}", 9, api.ErrFull, "t")
	fails(t, v, "INSERT INTO t 5", 9, api.ErrType, "t")
	v, _ = does(t, v, "CREATE TABLE u")
	revsAre(t, v, "INSERT INTO u {}", putRev("u", 257, 0, doc()))
	v, _ = does(t, v, "UPDATE t SET a = 1 WHERE FALSE")
	v = over(nil)
	v.Base.Last = 1<<62 - 1
	v, _ = does(t, v, "INSERT INTO t {}")
	fails(t, v, "INSERT INTO t {}", 9, api.ErrRange, "t")
	does(t, v, "UPDATE t SET a = 1")
}

// 15.2: ErrFull, if there would be more than MaxRevs; ahead of what table.Do refuses, behind what fails at a row.
func TestMaxRevs(t *testing.T) {
	v := over(many(api.MaxRevs+1, func(i int) api.Value { return doc("a", number(int64(i))) }), "a")
	fails(t, v, "UPDATE t SET b = 1", api.MaxFuel, api.ErrFull, "t")
	fails(t, v, "DELETE FROM t", api.MaxFuel, api.ErrFull, "t")
	fails(t, v, "DELETE FROM t", 65, api.ErrFull, "t")
	fails(t, v, "DELETE FROM t", 64, api.ErrFuel, "t")
	fails(t, v, "UPDATE t SET b = '"+xs(1020)+"'", api.MaxFuel, api.ErrFull, "t")
	fails(t, v, "UPDATE t SET b = '"+xs(1020)+"' WHERE a < 64", api.MaxFuel, api.ErrLong, "t")
	fails(t, v, "DELETE FROM t WHERE a < 64 OR a < 'x'", api.MaxFuel, api.ErrType, "t")
	w, r := does(t, v, "DELETE FROM t WHERE a < 64")
	if r.Count != api.MaxRevs || len(w.Revs) != api.MaxRevs {
		t.Errorf("%d revisions, %d", r.Count, len(w.Revs))
	}
	for _, text := range []string{"DELETE FROM t", "DELETE FROM t WHERE a = 64", "UPDATE t SET b = 1", "INSERT INTO t {}", "INSERT INTO t {a: '" + xs(1020) + "'}", "CREATE INDEX ON t (b)"} {
		fails(t, w, text, api.MaxFuel, api.ErrFull, "t")
		fails(t, w, text, 0, api.ErrFuel, "t")
	}
	fails(t, w, "CREATE TABLE u", 9, api.ErrFull, "u")
	fails(t, w, "CREATE TABLE t", 9, api.ErrTwice, "t")
	fails(t, w, "INSERT INTO t 5", 9, api.ErrType, "t")
	fails(t, w, "INSERT INTO t NULL", 9, api.ErrType, "t")
	fails(t, w, "DELETE FROM t WHERE a < 'x'", 9, api.ErrType, "t")
	rowsAre(t, w, "SELECT * FROM t", doc("a", number(64)))
	comes(t, w, "DELETE FROM t WHERE a = 3", 9, nil, nil, 9)
	comes(t, w, "UPDATE t SET a = 1 WHERE a > 64", 9, nil, nil, 5)
	// One place is left.
	w, _ = does(t, v, "DELETE FROM t WHERE a < 63")
	fails(t, w, "DELETE FROM t", api.MaxFuel, api.ErrFull, "t")
	fails(t, w, "UPDATE t SET b = 1", api.MaxFuel, api.ErrFull, "t")
	does(t, w, "DELETE FROM t WHERE a = 63")
	does(t, w, "INSERT INTO t {}")
}
