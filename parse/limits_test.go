package parse_test

import (
	"fmt"
	"strings"
	"testing"

	"codicil/api"
)

// 10.1: an expression of MaxExpr steps, and of one more, which shows with the token behind it.
func TestManySteps(t *testing.T) {
	// 64 parts and their operators are 127 steps; one more is the 128th, two are too many.
	row := times(64, " + ", same("1"))
	for _, s := range []string{"-" + row, "- 1" + row[1:], row[:len(row)-1] + "-1", "NOT " + row, row + " IS NULL", "[" + row + "]", "{a: " + row + "}", "[[], " + times(63, " * ", same("a")) + ", 'x']"} {
		x := fine(t, where(s))
		if len(x.Expr) != api.MaxExpr {
			t.Errorf("%s has %d steps", show(s), len(x.Expr))
		}
		marked(t, where("NOT "+s+"^"), api.ErrMany)
		marked(t, where("["+s+"]^"), api.ErrMany)
		marked(t, where("["+s+"] ^= 1"), api.ErrMany)
		marked(t, where("("+s+") + 1^"), api.ErrMany)
		marked(t, where("("+s+") + 1 ^+ 1"), api.ErrMany)
		marked(t, "SELECT 1 AS a, ["+s+"] ^AS b, 1 AS a FROM t", api.ErrMany)
		marked(t, "SELECT 1 AS a, ("+s+") IS NULL ^AS b FROM t", api.ErrMany)
		marked(t, "UPDATE t SET a = 1, b = ["+s+"]^, a = 1", api.ErrMany)
		marked(t, "UPDATE t SET a = ["+s+"] ^WHERE a", api.ErrMany)
		marked(t, "DELETE FROM t WHERE (["+s+"]^) + 1", api.ErrMany)
	}
	marked(t, where("1 + "+row+"^"), api.ErrMany)
	marked(t, where(row+" + 1^"), api.ErrMany)
	marked(t, where(row+" + 1 ^+ 1"), api.ErrMany)
	marked(t, where(row+" + 1 ^= 1"), api.ErrMany)
	marked(t, where(row+" * 1^"), api.ErrMany)
	marked(t, where(row+" IS NOT NULL^"), api.ErrMany)
	marked(t, where(row+" IS NOT NULL ^AND a"), api.ErrMany)
	flat := times(43, ", ", same("[1, 2]"))
	marked(t, where("["+flat+"^, 3]"), api.ErrMany)
	marked(t, where("["+flat+"^]"), api.ErrMany)
	// Those of the first list, with it, and those of the second one are 128.
	two := "[" + times(64, ", ", same("1")) + "], [" + times(63, ", ", same("a"))
	fine(t, where("["+strings.TrimSuffix(two, ", a, a")+"]]"))
	marked(t, where("["+two+", 2^]"), api.ErrMany)
	marked(t, where("["+two+", 2^, 3"), api.ErrMany)
	marked(t, where("["+two+", a.b.0^, 3"), api.ErrMany)
	marked(t, where("["+two+", a^]"), api.ErrMany)
	marked(t, where("["+two+", []^]"), api.ErrMany)
	marked(t, where("["+two+", (2^)]"), api.ErrMany)
	marked(t, where("["+two+", -2^]"), api.ErrMany)
	marked(t, where("["+two+", TRUE ^OR a]"), api.ErrMany)
}

// 10.1: each expression is counted alone.
func TestStepsOfEach(t *testing.T) {
	row := "-" + times(64, " + ", same("1"))
	x := fine(t, "UPDATE t SET a = "+row+", b = "+row+", c = "+row+" WHERE "+row)
	if len(x.Items) != 3 || len(x.Items[2].Expr) != api.MaxExpr || len(x.Expr) != api.MaxExpr {
		t.Errorf("Parse: %s", show(x))
	}
	fine(t, "SELECT "+row+" AS a, "+row+" AS b FROM t WHERE "+row)
	marked(t, "SELECT "+row+" AS a, -"+row+" ^AS b FROM t WHERE "+row, api.ErrMany)
	marked(t, "UPDATE t SET a = "+row+" WHERE NOT "+row+"^", api.ErrMany)
}

// ahead are what nests, and what ends it.
var ahead = []struct{ open, close string }{{"(", ")"}, {"[", "]"}, {"{a: ", "}"}, {"- ", ""}, {"NOT ", ""}}

// 10.1: MaxNest of each kind, and one more of each kind within.
func TestNest(t *testing.T) {
	for _, x := range ahead {
		open, end := strings.Repeat(x.open, api.MaxNest), strings.Repeat(x.close, api.MaxNest)
		cond(t, open+"1"+end, fine(t, where(open+"1"+end)).Expr...)
		fine(t, where(open+"a IS NOT NULL"+end))
		fine(t, where(open+"a - 1"+end))
		fine(t, where(open+"a.0.b"+end))
		for _, y := range ahead {
			if x.open == "- " && y.open == "NOT " {
				marked(t, where(open+"^NOT a"), api.ErrSyntax)
				continue
			}
			for _, rest := range []string{"", "a", "a" + y.close + end, ") = ]"} {
				marked(t, where(open+"^"+y.open+rest), api.ErrDepth)
			}
			one := strings.Repeat(x.open, api.MaxNest-1) + y.open + "a" + y.close + end[min(len(x.close), len(end)):]
			fine(t, where(one))
			// What was left is around no more.
			if x.close != "" {
				fine(t, where(strings.Repeat(x.open, api.MaxNest-1)+y.open+"1"+y.close+" OR "+y.open+"2"+y.close+end[1:]))
				marked(t, where(strings.Repeat(x.open, api.MaxNest-1)+y.open+"1"+y.close+" OR "+y.open+"^"+y.open+"2"), api.ErrDepth)
			}
		}
		for _, empty := range []string{"[]", "{}"} {
			fine(t, where(strings.Repeat(x.open, api.MaxNest-1)+empty+strings.Repeat(x.close, api.MaxNest-1)))
			marked(t, where(open+"^"+empty+end), api.ErrDepth)
		}
	}
	marked(t, where(strings.Repeat("(", api.MaxNest)+"^("+strings.Repeat("(", api.MaxBytes-100)), api.ErrDepth)
	marked(t, "INSERT INTO t "+strings.Repeat("-", api.MaxNest)+"^-1", api.ErrDepth)
	marked(t, "SELECT "+strings.Repeat("[", api.MaxNest)+"^[] AS x FROM t", api.ErrDepth)
	marked(t, "UPDATE t SET a = "+strings.Repeat("NOT ", api.MaxNest)+"^NOT 1", api.ErrDepth)
}

// 10.1: how far NOT and - ahead reach.
func TestNestReach(t *testing.T) {
	full := strings.Repeat("(", api.MaxNest-1)
	end := strings.Repeat(")", api.MaxNest-1)
	for _, s := range []string{"NOT a AND NOT b", "NOT a OR NOT b", "-a - -b", "-a * -b", "-a = -b", "-a OR NOT b", "NOT a OR -b", "-a IS NULL", "NOT a IS NOT NULL", "NOT a - 1", "(a) + (b)", "[a] = {b: 1}", "-a AND (b)"} {
		fine(t, where(full+s+end))
	}
	for _, s := range []string{"NOT ^NOT a", "NOT ^-a", "NOT a = ^-b", "NOT a + ^(b)", "NOT a = ^[b]", "-^-a", "-^(a)", "-^{}", "(^-a)", "[1, ^-a]", "[1, ^[]]", "{a: ^NOT b}", "NOT a * ^{}", "NOT a AND NOT ^(b)", "-a * -^(b)"} {
		marked(t, where(full+s+end), api.ErrDepth)
	}
	for _, s := range []string{"a IS NOT ^NOT NULL", "a = ^NOT b", "a ^(b)", "a ^[0]"} {
		marked(t, where(full+"("+s+")"+end), api.ErrSyntax)
	}
}

// 10.1: Items at MaxParts, and one more: its first token; a name twice.
func TestItems(t *testing.T) {
	sets := times(api.MaxParts, ", ", func(i int) string { return fmt.Sprintf("n%d = %d", i, i) })
	x := fine(t, "UPDATE t SET "+sets+" WHERE a")
	for i, name := range names(api.MaxParts) {
		if x.Items[i].Name != name || x.Items[i].Expr[0].N != int64(i) {
			t.Errorf("item %d: %s", i, show(x.Items[i]))
		}
	}
	for _, s := range []string{"x = 1", "x", "x 1", "x = (", "x = 1, n0 = 1", "x = 1 WHERE a"} {
		marked(t, "UPDATE t SET "+sets+", ^"+s, api.ErrMany)
	}
	marked(t, "UPDATE t SET "+sets+", ^", api.ErrSyntax)
	marked(t, "UPDATE t SET "+sets+", ^WHERE a", api.ErrSyntax)
	marked(t, "UPDATE t SET "+sets+" ^x = 1", api.ErrSyntax)
	marked(t, "UPDATE t SET "+sets+", ^n0 = 1", api.ErrTwice)
	marked(t, "UPDATE t SET "+sets+", ^n63", api.ErrTwice)

	items := times(api.MaxParts, ", ", func(i int) string { return fmt.Sprintf("%d AS n%d", i, i) })
	x = fine(t, "SELECT "+items+" FROM t")
	if len(x.Items) != api.MaxParts || x.Items[63].Name != "n63" {
		t.Errorf("Parse: %s", show(x))
	}
	for _, s := range []string{"1 AS x FROM t", "a", "a FROM", "(", "1 AS n0 FROM t", "NOT", "-", "[", "NULL"} {
		marked(t, "SELECT "+items+", ^"+s, api.ErrMany)
	}
	for _, s := range []string{"", "FROM t", "* FROM t", "AS x FROM t", ", 1 AS x", ")"} {
		marked(t, "SELECT "+items+", ^"+s, api.ErrSyntax)
	}

	for _, s := range []string{"UPDATE t SET a = 1, ^a = 2", "UPDATE t SET a = 1, b = 2, ^a = 3", "UPDATE t SET a = 1, ^a", "UPDATE t SET a = 1, ^a 7", "UPDATE t SET a = 1, ^a = (", "UPDATE t SET a = 1, ^a.b = 1",
		"SELECT 1 AS a, 2 AS ^a FROM t", "SELECT 1 AS a, 2 AS b, 3 AS ^b FROM t", "SELECT 1 AS a, 2 AS ^a", "SELECT 1 AS a, 2 AS ^a a FROM t", "SELECT {a: 1} AS a, b AS ^a FROM t"} {
		marked(t, s, api.ErrTwice)
	}
	fine(t, "UPDATE t SET a = 1, A = 2, t = 3")
	fine(t, "SELECT 1 AS a, a AS A, {a: 1} AS t FROM t ORDER BY a")
	fine(t, "UPDATE a SET a = {a: a} WHERE a")
}

// 10.1, P3: of two errors the one whose token is first; of two with one token the one that is named first.
func TestTwoErrors(t *testing.T) {
	deep := strings.Repeat("(", api.MaxNest)
	parts := times(api.MaxParts, ", ", same("1"))
	fields := times(api.MaxParts, ", ", func(i int) string { return fmt.Sprintf("n%d: 1", i) })
	row := times(64, " + ", same("1"))
	wrong := []struct {
		s   string // an expression that is not whole
		why api.Errno
	}{
		{"^= 1", api.ErrSyntax}, {"[1 ^1", api.ErrSyntax}, {"{a: 1, ^a: 1", api.ErrTwice}, {deep[1:] + "^(1", api.ErrDepth}, {"[" + parts + ", ^1", api.ErrMany}, {"{" + fields + ", ^x: 1", api.ErrMany}, {"[" + row + " + 1 ^+ 1", api.ErrMany},
	}
	for _, a := range wrong {
		for _, b := range wrong {
			marked(t, where("["+a.s+", "+strings.Replace(b.s, "^", "", 1)), a.why)
		}
	}
	// One token with two.
	marked(t, where("["+parts+", ^]"), api.ErrSyntax)
	marked(t, where("{"+fields+", ^1"), api.ErrSyntax)
	marked(t, where("{"+fields+", ^n5: 1"), api.ErrTwice)
	marked(t, where(deep[1:]+"["+parts+", ^(1"), api.ErrDepth)
	marked(t, where(deep[1:]+"["+parts+", ^-1"), api.ErrDepth)
	marked(t, where(deep[1:]+"["+parts+", ^NOT 1"), api.ErrDepth)
	marked(t, where(deep[1:]+"["+parts+", ^1"), api.ErrMany)
	marked(t, where(deep[1:]+"["+parts+", ^OR"), api.ErrSyntax)
	// A step too many shows with the token behind it: what may not stand there is told first.
	marked(t, where(row+" + 1 ^1"), api.ErrSyntax)
	marked(t, where(row+" + 1 ^)"), api.ErrSyntax)
	marked(t, where(row+" + 1 ^ORDER"), api.ErrSyntax)
	marked(t, where("("+row+" + 1^"), api.ErrSyntax)
	marked(t, where("["+row+" + 1 ^}"), api.ErrSyntax)
	marked(t, "SELECT "+row+" + 1 ^FROM t", api.ErrSyntax)
	marked(t, "INSERT INTO t "+row+" + 1 ^WHERE", api.ErrSyntax)
	// What is not right shows behind all else.
	marked(t, "INSERT INTO t [a, "+row+" + 1^]", api.ErrMany)
	marked(t, "INSERT INTO t {a: a, ^a: 1}", api.ErrTwice)
}
