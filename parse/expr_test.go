package parse_test

import (
	"fmt"
	"math"
	"strings"
	"testing"

	"codicil/api"
)

// 10.1: what takes nothing.
func TestPrimaries(t *testing.T) {
	cond(t, "NULL", step(api.StepNull))
	cond(t, "null", step(api.StepNull))
	cond(t, "TRUE", step(api.StepTrue))
	cond(t, "False", step(api.StepFalse))
	cond(t, "0", whole(0))
	cond(t, "9223372036854775807", whole(math.MaxInt64))
	cond(t, "''", text(""))
	cond(t, "'it''s'", text("it's"))
	cond(t, "'NULL'", text("NULL"))
	cond(t, "'("+xs(api.MaxText-1)+"'", text("("+xs(api.MaxText-1)))
	cond(t, "a", path("a"))
	cond(t, "(a)", path("a"))
	cond(t, "((7))", whole(7))
	for _, no := range []string{")", "]", "}", "()", "=", "<>", "<", "<=", ">", ">=", "+", "*", ",", ":", ".", "AND a", "OR a", "IS NULL", "AS", "SELECT * FROM t", "WHERE", "IN", "ALL"} {
		at := "^"
		if no == "()" {
			no, at = ")", "(^"
		}
		marked(t, where(at+no), api.ErrSyntax)
		marked(t, where("a = "+at+no), api.ErrSyntax)
		marked(t, where("["+at+strings.Replace(no, "]", ")", 1)), api.ErrSyntax)
	}
}

// 10.1: paths have numbers, too, but not as their first step; blanks in them are no matter.
func TestPaths(t *testing.T) {
	for _, s := range []string{"a.b", "a.0", "a.0.b", "a.b.c.d.e", "a.10.9223372036854775807.x_1", "_._", xs(64) + "." + xs(64), "a.a.a", "a.0.0"} {
		cond(t, s, path(s))
		cond(t, strings.ReplaceAll(s, ".", " . "), path(s))
		cond(t, strings.ReplaceAll(s, ".", "\n."), path(s))
		cond(t, "- "+s+" + 1", path(s), step(api.StepNeg), whole(1), step(api.StepAdd))
	}
	for _, s := range []string{"0^.a", "7 ^. a", "a.^", "a.^.b", "a.b.^", "a.^from", "a.^NULL", "a.^'b'", "a.^(b)", "a.^-1", "a.^*", "a^[0]", "a ^b", "a.b ^c", "a.0 ^0", "(a)^.b", "[a]^.0", "{a: 1}^.a", "'a'^.b", "NULL^.a", "^.a", "TRUE^.a", "a. ^= b"} {
		marked(t, where(s), api.ErrSyntax)
	}
	marked(t, where("a.^01"), api.ErrSyntax)
	marked(t, where("a.^0b"), api.ErrSyntax)
	marked(t, where("a.^9223372036854775808"), api.ErrSyntax)
}

// 10.1: a path of MaxText bytes, and of one more, which shows when all is read; its blanks do not count.
func TestLongPaths(t *testing.T) {
	most := strings.Repeat("ab.", api.MaxText/3) + "a"
	if len(most) != api.MaxText {
		t.Fatal("a path of", len(most))
	}
	for _, s := range []string{most, xs(64) + strings.Repeat("."+xs(63), 15), "a" + strings.Repeat(".9223372036854775807", 51) + ".12"} {
		cond(t, s, path(s))
		cond(t, strings.ReplaceAll(s, ".", " . "), path(s))
		for _, no := range []string{s + "0", s + ".a", s + ".0", s + "." + s} {
			if strings.HasSuffix(s, xs(63)) && no == s+"0" {
				no = s + "a" // of 64 bytes still
			}
			refuses(t, where(no), api.ErrSyntax, 0)
			refuses(t, "SELECT 1 AS a, "+no+" AS b FROM t", api.ErrSyntax, 0)
			refuses(t, "UPDATE t SET a = 1 + -"+no+" WHERE a", api.ErrSyntax, 0)
			marked(t, where(no+" = ^"), api.ErrSyntax)
			marked(t, where(no+" ^a"), api.ErrSyntax)
			marked(t, where("{a: "+no+", ^a: 1}"), api.ErrTwice)
		}
	}
}

// operator is one that stands between two, and how near it holds them.
type operator struct {
	text string
	kind api.StepKind
	row  int
}

var operators = []operator{
	{"OR", api.StepOr, 1}, {"AND", api.StepAnd, 2},
	{"=", api.StepEqual, 4}, {"<>", api.StepUnlike, 4}, {"<", api.StepLess, 4}, {"<=", api.StepMost, 4}, {">", api.StepMore, 4}, {">=", api.StepLeast, 4},
	{"+", api.StepAdd, 5}, {"-", api.StepSub, 5}, {"*", api.StepMul, 6},
}

// 10.1: each row of operators with each other one, and with brackets.
func TestRows(t *testing.T) {
	a, b, c := path("a"), path("b"), path("c")
	for _, x := range operators {
		cond(t, "a "+x.text+" b", a, b, step(x.kind))
		for _, y := range operators {
			left, right := "(a "+x.text+" b) "+y.text+" c", "a "+x.text+" (b "+y.text+" c)"
			cond(t, left, a, b, step(x.kind), c, step(y.kind))
			cond(t, right, a, b, c, step(y.kind), step(x.kind))
			bare := "a " + x.text + " b " + y.text + " c"
			switch {
			case x.row == 4 && y.row == 4:
				marked(t, where("a "+x.text+" b ^"+y.text+" c"), api.ErrSyntax)
			case x.row >= y.row:
				cond(t, bare, a, b, step(x.kind), c, step(y.kind))
			default:
				cond(t, bare, a, b, c, step(y.kind), step(x.kind))
			}
		}
	}
}

// 10.1: NOT and - ahead hold what their rows say, with each operator.
func TestSignsAhead(t *testing.T) {
	a, b, not, neg := path("a"), path("b"), step(api.StepNot), step(api.StepNeg)
	cond(t, "NOT a", a, not)
	cond(t, "NOT NOT a", a, not, not)
	cond(t, "-a", a, neg)
	cond(t, "- - a", a, neg, neg)
	cond(t, "--1", whole(1), neg, neg)
	cond(t, "NOT -a", a, neg, not)
	cond(t, "a - -b", a, b, neg, step(api.StepSub))
	cond(t, "-9223372036854775807", whole(math.MaxInt64), neg)
	for _, x := range operators {
		cond(t, "-a "+x.text+" -b", a, neg, b, neg, step(x.kind))
		cond(t, "-(a "+x.text+" b)", a, b, step(x.kind), neg)
		cond(t, "NOT (a "+x.text+" b)", a, b, step(x.kind), not)
		cond(t, "(NOT a) "+x.text+" (NOT b)", a, not, b, not, step(x.kind))
		if x.row < 3 {
			cond(t, "NOT a "+x.text+" NOT b", a, not, b, not, step(x.kind))
			continue
		}
		cond(t, "NOT a "+x.text+" b", a, b, step(x.kind), not)
		marked(t, where("a "+x.text+" ^NOT b"), api.ErrSyntax)
	}
	marked(t, where("-^NOT a"), api.ErrSyntax)
	marked(t, where("a ^NOT b"), api.ErrSyntax)
	marked(t, where("NOT^"), api.ErrSyntax)
	marked(t, where("-^"), api.ErrSyntax)
	marked(t, where("a -^"), api.ErrSyntax)
	marked(t, where("^+a"), api.ErrSyntax)
}

// 10.1: IS NULL and IS NOT NULL stand behind a sum, once.
func TestIsNull(t *testing.T) {
	a, b, is, not := path("a"), path("b"), step(api.StepIsNull), step(api.StepNot)
	cond(t, "a IS NULL", a, is)
	cond(t, "a is not null", a, is, not)
	cond(t, "NULL IS NULL", step(api.StepNull), is)
	cond(t, "NOT a IS NULL", a, is, not)
	cond(t, "NOT a IS NOT NULL", a, is, not, not)
	cond(t, "-a IS NULL", a, step(api.StepNeg), is)
	cond(t, "a + b IS NULL", a, b, step(api.StepAdd), is)
	cond(t, "a * b IS NOT NULL", a, b, step(api.StepMul), is, not)
	cond(t, "a IS NULL AND b IS NOT NULL", a, is, b, is, not, step(api.StepAnd))
	cond(t, "a OR b IS NULL", a, b, is, step(api.StepOr))
	cond(t, "(a IS NULL) IS NOT NULL", a, is, is, not)
	cond(t, "(a IS NULL) = b", a, is, b, step(api.StepEqual))
	cond(t, "[a IS NULL, b]", a, is, b, list(2))
	for _, s := range []string{"a IS ^", "a IS ^a", "a IS ^TRUE", "a IS NOT ^", "a IS NOT ^TRUE", "a IS NOT ^NOT NULL", "a IS NULL ^IS NULL", "a IS NULL ^= b", "a = b ^IS NULL", "a IS ^= NULL", "a ^NULL", "a IS NULL ^+ 1", "^IS NULL", "a IS ^(NULL)", "a IS NULL ^NULL"} {
		marked(t, where(s), api.ErrSyntax)
	}
}

// 10.1: lists and structs that are empty, with one part and with some.
func TestListsAndStructs(t *testing.T) {
	a, b := path("a"), path("b")
	cond(t, "[]", list(0))
	cond(t, "[ ]", list(0))
	cond(t, "[1]", whole(1), list(1))
	cond(t, "[a, b]", a, b, list(2))
	cond(t, "[[], [1], [[]]]", list(0), whole(1), list(1), list(0), list(1), list(3))
	cond(t, "[a OR b, NOT a, a = b, -a]", a, b, step(api.StepOr), a, step(api.StepNot), a, b, step(api.StepEqual), a, step(api.StepNeg), list(4))
	cond(t, "{}", structOf(0, ""))
	cond(t, "{a: 1}", whole(1), structOf(1, "a"))
	cond(t, "{b: a, a: b}", a, b, structOf(2, "b,a"))
	cond(t, "{a: {a: {}}, b: [{}]}", structOf(0, ""), structOf(1, "a"), structOf(0, ""), list(1), structOf(2, "a,b"))
	cond(t, "{a: 1, A: 2, _a: a OR b}", whole(1), whole(2), a, b, step(api.StepOr), structOf(3, "a,A,_a"))
	cond(t, "[1] + {a: 2} = [] AND {}", whole(1), list(1), whole(2), structOf(1, "a"), step(api.StepAdd), list(0), step(api.StepEqual), structOf(0, ""), step(api.StepAnd))
	for _, s := range []string{"[^", "[1^", "[1, ^", "[1, ^]", "[^, 1]", "[1 ^2]", "[1^)", "[1^}", "[1, ^, 2]", "(1^]", "(1^, 2)", "(^)", "{^", "{a^", "{a: ^", "{a: 1^", "{a: 1, ^", "{a: 1, ^}", "{^, a: 1}", "{a: ^}", "{a ^1}", "{a ^= 1}", "{a: 1^]", "{^'a': 1}", "{^1: 1}", "{a^.b: 1}", "{^from: 1}", "{a: 1 ^b: 2}",
		"{a: 1, b ^2}", "{^(a): 1}", "[1] ^[2]", "[a^: 1]", "{a: 1} ^{}"} {
		marked(t, where(s), api.ErrSyntax)
	}
}

// 10.1: lists and structs of MaxParts, and of one more: its first token.
func TestManyParts(t *testing.T) {
	var ones []api.Step
	for range api.MaxParts {
		ones = append(ones, whole(1))
	}
	all := strings.Join(names(api.MaxParts), ",")
	parts := times(api.MaxParts, ", ", same("1"))
	fields := times(api.MaxParts, ", ", func(i int) string { return fmt.Sprintf("n%d: 1", i) })
	cond(t, "["+parts+"]", append(ones[:api.MaxParts:api.MaxParts], list(api.MaxParts))...)
	cond(t, "{"+fields+"}", append(ones[:api.MaxParts:api.MaxParts], structOf(api.MaxParts, all))...)
	for _, s := range []string{"1", "a", "'x'", "NOT a", "-1", "(1)", "[]", "{}", "(]", "1 1", "NULL", "a."} {
		for _, behind := range []string{"", "]", ", 1]", ", 1, 1]"} {
			marked(t, where("["+parts+", ^"+s+behind), api.ErrMany)
			marked(t, where("{a: ["+parts+", ^"+s+behind), api.ErrMany)
		}
	}
	for _, s := range []string{"x: 1}", "x", "x: 1, n0: 1}", "x 1", "x:}"} {
		marked(t, where("{"+fields+", ^"+s), api.ErrMany)
	}
	for _, s := range []string{"^]", "^", "^, 1]", "^)", "^AND", "^+ 1"} {
		marked(t, where("["+parts+", "+s), api.ErrSyntax)
	}
	marked(t, where("["+parts+" ^1]"), api.ErrSyntax)
	marked(t, where("["+parts+"^"), api.ErrSyntax)
	for _, s := range []string{"^}", "^", "^'x': 1}", "^1: 1}", "^null: 1}"} {
		marked(t, where("{"+fields+", "+s), api.ErrSyntax)
	}
	marked(t, where("{"+fields+", ^n0: 1}"), api.ErrTwice)
	marked(t, where("{"+fields+", ^n63 1}"), api.ErrTwice)
}

// 10.1: a name twice in a struct, as soon as it is met; in another struct it is another one.
func TestTwiceInStructs(t *testing.T) {
	for _, s := range []string{"{a: 1, ^a: 2}", "{a: 1, b: 2, ^a: 3}", "{a: 1, b: 2, ^b: 3}", "{a: 1, ^a", "{a: 1, ^a a}", "{a: 1, ^a: (", "[{a: {b: 1, ^b: 1}, a: 1}]", "{a: {a: 1}, ^a: 1}", "{a: 1, b: {a: 1}, ^a: 2}", "{a: 1, ^a: 1, a: 1}"} {
		marked(t, where(s), api.ErrTwice)
		marked(t, "UPDATE t SET x = "+s+", x = 2", api.ErrTwice)
	}
	for _, s := range []string{"{a: 1, A: 2}", "{a: a, b: a}", "{a: {a: {a: 1}}}", "[{a: 1}, {a: 1}]", "{a: {b: 1}, b: {a: 1}}"} {
		fine(t, where(s))
	}
	marked(t, where("{a: 1, ^a.b: 1}"), api.ErrTwice)
	marked(t, where("{a: 1, b^.a: 1}"), api.ErrSyntax)
}
