package view_test

import (
	"strings"
	"testing"

	"codicil/api"
)

// takes fails, unless a statement takes just so much fuel: with less it is ErrFuel, with more it does the same, and leaves as much more.
func takes(t *testing.T, v api.View, text string, fuel int) {
	t.Helper()
	enough := asSaid(t, v, text, fuel)
	if enough.Why != api.OK || enough.Result.Left != 0 {
		t.Fatalf("%s with %d: %s", text, fuel, show(enough))
	}
	for less := range fuel {
		fails(t, v, text, less, api.ErrFuel, enough.table())
	}
	for _, more := range []int{fuel + 1, fuel + 2, fuel + 100, api.MaxFuel - 1, api.MaxFuel} {
		want := enough
		want.Result.Left = more - fuel
		if got := asSaid(t, v, text, more); !same(got, want) {
			t.Errorf("%s with %d: %s, not %s", text, more, show(got), show(want))
		}
	}
	for _, wrong := range []int{-1 << 31, -1, api.MaxFuel + 1, 1 << 31} {
		if got := asSaid(t, v, text, wrong); !same(got, answer{Why: api.ErrRange}) {
			t.Errorf("%s with %d: %s", text, wrong, show(got))
		}
	}
}

// table is the one that a statement read, or of which it brought a revision.
func (a answer) table() string {
	if len(a.Reads) > 0 {
		return a.Reads[0].Table
	}
	return a.View.Revs[len(a.View.Revs)-1].Table
}

// 15.2, 15.6: what each statement takes: one for a row, and what its condition and its Items take.
func TestFuel(t *testing.T) {
	v := over([]api.Value{doc("a", number(1), "b", number(2)), doc("a", number(2)), doc("a", number(1))})
	keyed := v
	keyed.Base = twin(v.Base)
	keyed.Base.Tables[0].Indexes = []string{"a"}
	for text, fuel := range map[string][2]int{
		"CREATE TABLE u":                             {1, 1},
		"CREATE INDEX ON t (b)":                      {1, 1},
		"INSERT INTO t {}":                           {2, 2},
		"INSERT INTO t {a: 1, b: [2, 3]}":            {6, 6},
		"INSERT INTO t {a: TRUE OR FALSE}":           {4, 4},
		"SELECT * FROM t":                            {3, 3},
		"SELECT * FROM t ORDER BY a DESC":            {3, 3},
		"SELECT * FROM HISTORY(t)":                   {3, 3},
		"SELECT a AS a, 1 AS b FROM t":               {9, 9},
		"SELECT * FROM t WHERE TRUE":                 {6, 6},
		"SELECT * FROM t WHERE a = 1":                {12, 8},
		"SELECT * FROM t WHERE a = 3":                {12, 0},
		"SELECT * FROM t WHERE 1 < a":                {12, 12},
		"SELECT * FROM HISTORY(t) WHERE a":           {6, 6},
		"SELECT a + 1 AS x FROM t WHERE a = 1":       {18, 14},
		"SELECT a + 1 AS x, b AS y FROM t WHERE 1=a": {20, 16},
		"SELECT * FROM t WHERE a = 1 AND b = 2":      {3*5 + 2*4, 2*5 + 2*4},
		"SELECT * FROM t WHERE a = 1 OR b = 2":       {3*5 + 4, 3*5 + 4},
		"SELECT * FROM HISTORY(t) WHERE doc = 1":     {12, 12},
		"UPDATE t SET a = 5":                         {6, 6},
		"UPDATE t SET a = 5, c = a WHERE a = 1":      {16, 12},
		"UPDATE t SET a = 5 WHERE FALSE":             {6, 6},
		"DELETE FROM t":                              {3, 3},
		"DELETE FROM t WHERE a = 2":                  {12, 4},
		"DELETE FROM t WHERE b IS NULL":              {9, 9},
	} {
		takes(t, v, text, fuel[0])
		takes(t, keyed, text, fuel[1])
	}
	for _, text := range []string{"SELECT * FROM t", "SELECT * FROM HISTORY(t)", "UPDATE t SET a = 1", "DELETE FROM t WHERE a = 1"} {
		takes(t, over(nil), text, 0)
	}
}

// 15.2, 15.6: a statement that has an error: with less fuel than to come to it ErrFuel, from there on just that error.
func TestFuelUpToAnError(t *testing.T) {
	v := over([]api.Value{doc("a", number(1)), doc("a", number(2)), doc("a", word("x")), doc("a", nested(5, null()))})
	for text, x := range map[string]struct {
		fuel int
		why  api.Errno
	}{
		"SELECT * FROM t WHERE a < 3":              {12, api.ErrType},
		"SELECT * FROM t WHERE a = 1 OR a + 1 = 3": {5 + 11 + 8, api.ErrType},
		"SELECT a + 1 AS x FROM t":                 {12, api.ErrType},
		"SELECT 1 AS y, a + 1 AS x FROM t":         {15, api.ErrType},
		"SELECT * FROM t WHERE a":                  {2, api.ErrType},
		"UPDATE t SET b = a * 9223372036854775807": {8, api.ErrOver},
		"UPDATE t SET b = 1":                       {8, api.ErrLong},
		"UPDATE t SET b = [a]":                     {12, api.ErrDepth},
		"DELETE FROM t WHERE a > 1":                {12, api.ErrType},
		"INSERT INTO t 5":                          {2, api.ErrType},
		"INSERT INTO t {a: -'x'}":                  {3, api.ErrType},
		"INSERT INTO t {a: [[[[[1]]]]]}":           {8, api.ErrLong},
		"SELECT * FROM HISTORY(t)":                 {4, api.ErrDepth},
		"SELECT [a] AS x FROM t":                   {12, api.ErrDepth},
		"SELECT doc AS x FROM HISTORY(t)":          {7, api.ErrDepth},
	} {
		for fuel := range x.fuel {
			fails(t, v, text, fuel, api.ErrFuel, "t")
		}
		for _, fuel := range []int{x.fuel, x.fuel + 1, x.fuel + 50, api.MaxFuel} {
			fails(t, v, text, fuel, x.why, "t")
		}
	}
}

// 15.2: all of MaxFuel, and one more than there is.
func TestMaxFuel(t *testing.T) {
	text := "SELECT p AND NOT TRUE AS a, q OR TRUE AS b"
	for i, n := range []int{62, 62, 62, 59} {
		text += ", [" + strings.Repeat("1, ", n-1) + "1] AS " + name(i)
	}
	text += " FROM t"
	for _, x := range []struct {
		p, q bool // of the last row: the first one being true takes three more, the second one two less
		left int
		why  api.Errno
	}{{false, false, 0, api.OK}, {true, true, 0, api.ErrFuel}, {false, true, 2, api.OK}, {true, false, 0, api.ErrFuel}} {
		v := over(many(api.MaxDocs, func(i int) api.Value { return doc("p", flag(x.p && i == 255), "q", flag(x.q && i == 255)) }))
		if got := asSaid(t, v, text, api.MaxFuel); got.Why != x.why || got.Result.Left != x.left {
			t.Errorf("%v: %d left, error %d", x, got.Result.Left, got.Why)
		}
	}
}
