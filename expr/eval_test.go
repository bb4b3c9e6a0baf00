package expr_test

import (
	"fmt"
	"math"
	"strings"
	"testing"

	"codicil/api"
	"codicil/expr"
	"codicil/value"
)

// row is a document with something of each kind.
func row() api.Value {
	return doc("a", number(1), "b", flag(true), "l", all(number(7), all(), doc("x", word("in")), null()), "n", null(), "s", word("x"), "u", doc("0", word("nought"), "inner", doc("deep", number(5))), "z", blob("\xff\x00"))
}

// 11.1: what takes nothing.
func TestConstants(t *testing.T) {
	for _, r := range append(samples(), row()) {
		comes(t, steps(step(api.StepNull)), r, null())
		comes(t, steps(step(api.StepTrue)), r, flag(true))
		comes(t, steps(step(api.StepFalse)), r, flag(false))
		for _, n := range []int64{0, 1, 7, math.MaxInt64} {
			comes(t, steps(whole(n)), r, number(n))
		}
		for _, s := range []string{"", "a", "it's", "é", "\x00", xs(1024), "NULL"} {
			comes(t, steps(text(s)), r, word(s))
		}
	}
}

// 11.1: a path leads to a part of the row, or to nothing, which is null.
func TestPaths(t *testing.T) {
	for s, want := range map[string]api.Value{
		"a": number(1), "b": flag(true), "n": null(), "s": word("x"), "z": blob("\xff\x00"), "u": row().Fields[5].Value, "l": row().Fields[2].Value,
		"l.0": number(7), "l.1": all(), "l.2": doc("x", word("in")), "l.2.x": word("in"), "l.3": null(),
		"u.0": word("nought"), "u.inner.deep": number(5), "u.inner": doc("deep", number(5)),
	} {
		comes(t, steps(path(s)), row(), want)
	}
	for _, s := range []string{"c", "A", "aa", "_", "l.4", "l.9223372036854775807", "l.x", "l.1.0", "l.2.0", "l.2.y", "l.3.x", "a.b", "a.0", "b.b", "s.0", "s.x", "n.n", "n.0", "z.0", "u.1", "u.inner.deep.x", "u.inner.deep.0", "u.deep", "x", "inner.deep"} {
		comes(t, steps(path(s)), row(), null())
		comes(t, steps(path(s), step(api.StepIsNull)), row(), flag(true))
	}
	// Out of what is no struct no name leads anywhere.
	for _, r := range []api.Value{null(), flag(true), number(7), word("a"), blob("a"), all(number(1), doc("a", number(2)))} {
		for _, s := range []string{"a", "a.0", "_"} {
			comes(t, steps(path(s)), r, null())
		}
	}
	deep := doc("a", all(doc("b", all(doc("c", all(number(3)))))))
	comes(t, steps(path("a.0.b.0.c.0")), deep, number(3))
	comes(t, steps(path("a.0.b.0.c.0.d")), deep, null())
	comes(t, steps(path("a.0.b.0")), deep, doc("c", all(number(3))))
}

// 11.1: a path of as many bytes as may be.
func TestLongPath(t *testing.T) {
	names := strings.Repeat(xs(64)+".", 15) + xs(49)
	if len(names) != api.MaxText {
		t.Fatal(len(names))
	}
	comes(t, steps(path(names)), row(), null())
	comes(t, steps(path(names)), doc(xs(64), doc(xs(64), number(1))), null())
	comes(t, steps(path(xs(64)+"."+xs(64))), doc(xs(64), doc(xs(64), number(1))), number(1))
	fails(t, steps(path(names+"x")), row(), api.ErrSyntax)
}

// 11.1: lists of no part, of some, of MaxParts.
func TestLists(t *testing.T) {
	comes(t, steps(list(0)), row(), all())
	comes(t, steps(step(api.StepNull), list(1)), row(), all(null()))
	comes(t, steps(path("c"), path("a"), text("t"), list(0), list(4)), row(), all(null(), number(1), word("t"), all()))
	comes(t, read(t, "[a + 1, a = 1, [l, [n]], {}]"), row(), all(number(2), flag(true), all(row().Fields[2].Value, all(null())), doc()))
	var l []api.Step
	var want []api.Value
	for i := range 64 {
		l = append(l, whole(int64(i)))
		want = append(want, number(int64(i)))
	}
	comes(t, append(l, list(64)), row(), all(want...))
	fails(t, append(append(l[:64:64], whole(64)), list(65)), row(), api.ErrSyntax)
}

// 11.1: structs of no part, of MaxParts, and with names not in their order, whose parts stay with them.
func TestStructs(t *testing.T) {
	comes(t, steps(structOf()), row(), doc())
	comes(t, read(t, "{x: a}"), row(), doc("x", number(1)))
	comes(t, read(t, "{b: 1, a: 2}"), row(), doc("a", number(2), "b", number(1)))
	comes(t, read(t, "{b: NULL, B: 2, _: 3, a_: 4, a: 5, ab: 6, a1: {c: [], b: s}}"), row(),
		doc("B", number(2), "_", number(3), "a", number(5), "a1", doc("b", word("x"), "c", all()), "a_", number(4), "ab", number(6), "b", null()))
	var l []api.Step
	var falling []string
	want := doc()
	for i := range 64 {
		l = append(l, whole(int64(63-i)))
		falling = append(falling, fmt.Sprintf("n%02d", 63-i))
		want.Fields = append(want.Fields, api.Field{Name: fmt.Sprintf("n%02d", i), Value: number(int64(i))})
	}
	comes(t, append(l, structOf(falling...)), row(), want)
	fails(t, append(append(l[:64:64], whole(64)), structOf(append(falling, "o")...)), row(), api.ErrSyntax)
	fails(t, steps(whole(1), whole(2), structOf("a", "a")), row(), api.ErrSyntax)
}

// 11.1: what is nested up to MaxDepth is right, one deeper is ErrDepth, wherever the depth comes from.
func TestDepth(t *testing.T) {
	for i := range 10 {
		l, want := steps(list(0)), all()
		s, wantStruct := steps(structOf()), doc()
		for range i {
			l, want = append(l, list(1)), all(want)
			s, wantStruct = append(s, structOf("a")), doc("a", wantStruct)
		}
		if i < api.MaxDepth {
			comes(t, l, row(), want)
			comes(t, s, row(), wantStruct)
			continue
		}
		fails(t, l, row(), api.ErrDepth)
		fails(t, s, row(), api.ErrDepth)
		fails(t, append(l, step(api.StepIsNull)), row(), api.ErrDepth)
		fails(t, join(steps(whole(1)), l, steps(list(2))), row(), api.ErrDepth)
		// The list that is one too many around a number.
		fails(t, join(steps(whole(1)), make1(i+1, list(1))), row(), api.ErrDepth)
	}
	comes(t, join(steps(whole(1)), make1(6, list(1))), row(), nested(6, number(1)))
	fails(t, join(steps(whole(1)), make1(7, list(1))), row(), api.ErrDepth)
	r := doc("a", nested(5, number(1)), "b", nested(4, doc("b", word("x"))))
	for _, name := range []string{"a", "b"} {
		part, _ := value.Get(r, []string{name})
		comes(t, steps(path(name)), r, part)
		comes(t, steps(path(name), list(1)), r, all(part))
		comes(t, steps(path(name), structOf("x")), r, doc("x", part))
		fails(t, steps(path(name), list(1), list(1)), r, api.ErrDepth)
		fails(t, steps(path(name), structOf("x"), list(1)), r, api.ErrDepth)
		fails(t, steps(path(name), list(1), structOf("x")), r, api.ErrDepth)
		fails(t, steps(whole(1), path(name), list(1), list(2)), r, api.ErrDepth)
		comes(t, steps(path(name+".0"), list(1), list(1)), r, nested(2, part.List[0]))
	}
}

// make1 is a step, so many times.
func make1(n int, s api.Step) []api.Step {
	var l []api.Step
	for range n {
		l = append(l, s)
	}
	return l
}

// 11.1: a value may be longer than a statement or a text: only value.Check's errors count.
func TestLongValues(t *testing.T) {
	var l []api.Step
	var want []api.Value
	for range 64 {
		l = append(l, text(xs(1024)))
		want = append(want, word(xs(1024)))
	}
	comes(t, append(l, list(64)), row(), all(want...))
	comes(t, append(l[:64:64], list(64), list(1)), row(), all(all(want...)))
	fails(t, append(l[:64:64], list(64), text(xs(1025)), step(api.StepEqual)), row(), api.ErrSyntax)
	r := doc("a", all(want...))
	comes(t, steps(path("a"), path("a"), path("a"), list(3)), r, all(all(want...), all(want...), all(want...)))
	comes(t, steps(path("a"), path("a"), step(api.StepEqual)), r, flag(true))
}

// 11.1: an expression of MaxExpr steps, and of one more.
func TestLongExpressions(t *testing.T) {
	l := steps(path("a"))
	for range 63 {
		l = append(l, path("a"), step(api.StepAdd))
	}
	comes(t, l, row(), number(64))
	comes(t, append(l, step(api.StepNeg)), row(), number(-64))
	fails(t, append(l, step(api.StepNeg), step(api.StepNeg)), row(), api.ErrSyntax)
	comes(t, join(steps(whole(5)), make1(127, step(api.StepNeg))), row(), number(-5))
	comes(t, join(steps(step(api.StepTrue)), make1(127, step(api.StepNot))), row(), flag(false))
	ands := join(make1(64, step(api.StepTrue)), make1(63, step(api.StepAnd)))
	comes(t, ands, row(), flag(true))
	ors := join(make1(64, step(api.StepFalse)), make1(63, step(api.StepOr)))
	comes(t, ors, row(), flag(false))
}

// 11.1: the numbers at the ends, and one beyond.
func TestNumbers(t *testing.T) {
	const least, most = math.MinInt64, math.MaxInt64
	r := doc("least", number(least), "most", number(most), "root", number(3037000499), "two", number(1<<32))
	for s, want := range map[string]int64{
		"1 + 1": 2, "most + 0": most, "most - 1 + 1": most, "least + most": -1, "most + least": -1, "least + 0": least, "least + 1": least + 1, "0 + least": least, "-1 + most": most - 1, "-2 + 1": -1,
		"3 - 5": -2, "0 - most": -most, "-1 - most": least, "least - 0": least, "most - most": 0, "least - least": 0, "-1 - least": most, "least + 1 - 1": least, "most - -0": most, "-9223372036854775807 - 1": least,
		"0 * least": 0, "least * 0": 0, "1 * least": least, "least * 1": least, "-1 * most": -most, "most * -1": -most, "-1 * -1": 1, "-3 * 4": -12, "root * root": 9223372030926249001, "-root * root": -9223372030926249001,
		"two * 2147483647": 9223372032559808512, "-two * 2147483648": least, "2147483648 * -two": least, "4611686018427387903 * 2": most - 1, "-4611686018427387904 * 2": least, "3074457345618258602 * 3": most - 1,
		"-most": -most, "-(least + 1)": most, "-0": 0, "--most": most, "-(-1)": 1, "2 + 3 * 4": 14, "(2 + 3) * 4": 20, "10 - 3 - 2": 5,
	} {
		comes(t, read(t, s), r, number(want))
	}
	for _, s := range []string{
		"most + 1", "1 + most", "most + most", "least + -1", "-1 + least", "least + least", "most + 1 - 1",
		"most - -1", "least - 1", "0 - least", "1 - least", "most - least", "least - most", "-2 - most",
		"most * 2", "2 * most", "-2 * most", "least * 2", "2 * least", "least * -1", "-1 * least", "least * least", "most * most", "least * most", "(root + 1) * (root + 1)", "two * 2147483648", "-two * 2147483649", "two * two", "3074457345618258603 * 3", "4611686018427387904 * 2",
		"-least", "-(-most - 1)", "--least",
	} {
		fails(t, read(t, s), r, api.ErrOver)
	}
}

// 11.1: sums, differences and products of numbers near all powers of two.
func TestNearPowers(t *testing.T) {
	var l []int64
	for i := range 64 {
		for d := range int64(3) {
			l = append(l, 1<<i+d-1, -(1<<i + d - 1))
		}
	}
	two := steps(path("x"), path("y"))
	for _, x := range l {
		for _, y := range l {
			r := doc("x", number(x), "y", number(y))
			for _, s := range binary[:3] {
				isAsSaid(t, append(two[:2:2], s), r)
			}
		}
		isAsSaid(t, steps(path("x"), step(api.StepNeg)), doc("x", number(x)))
		if t.Failed() {
			return
		}
	}
}

// 11.1: each step that takes one or two, with values of each kind on either side.
func TestAllKinds(t *testing.T) {
	met := map[api.Errno]int{}
	for _, x := range samples() {
		for _, s := range unary {
			met[isAsSaid(t, steps(path("x"), s), doc("x", x))]++
		}
		for _, y := range samples() {
			for _, s := range binary {
				met[isAsSaid(t, steps(path("x"), path("y"), s), doc("x", x, "y", y))]++
			}
		}
	}
	if met[api.OK] < 1000 || met[api.ErrType] < 1000 || met[api.ErrOver] < 5 || len(met) != 3 {
		t.Errorf("met %v", met)
	}
}

// 11.1: what is of two kinds is unlike, and has no order; nor have lists and structs.
func TestComparisons(t *testing.T) {
	for s, want := range map[string]bool{
		"1 = 1": true, "1 = 2": false, "1 <> 1": false, "1 <> 2": true, "a = 'x'": false, "a <> 'x'": true, "a = TRUE": false, "b = TRUE": true, "b <> FALSE": true, "s = 'x'": true, "s = 'X'": false, "s = z": false, "s <> z": true, "z = z": true,
		"[] = []": true, "[] = {}": false, "[] <> {}": true, "[1] = [1, 2]": false, "[1, NULL] = [1, NULL]": true, "[NULL] <> [1]": true, "{a: 1, b: 2} = {b: 2, a: 1}": true, "{a: 1} = {b: 1}": false, "{a: NULL} = {}": false, "l = l": true, "[a] = l": false, "u.inner = {deep: 5}": true,
		"1 < 2": true, "2 < 2": false, "3 < 2": false, "1 <= 2": true, "2 <= 2": true, "3 <= 2": false, "1 > 2": false, "2 > 2": false, "3 > 2": true, "1 >= 2": false, "2 >= 2": true, "3 >= 2": true, "-1 < 0": true, "-2 > -1": false,
		"'a' < 'b'": true, "'B' < 'a'": true, "'' < 'a'": true, "'a' >= 'a'": true, "'é' > 'z'": true, "'10' < '9'": true, "'a' < 'ab'": true,
		"FALSE < TRUE": true, "TRUE < TRUE": false, "TRUE <= TRUE": true, "TRUE > FALSE": true, "FALSE >= TRUE": false, "z <= z": true, "z < z": false,
	} {
		comes(t, read(t, s), row(), flag(want))
	}
	for _, op := range []string{"<", "<=", ">", ">="} {
		for _, s := range []string{"1 ? 'a'", "'a' ? 1", "1 ? TRUE", "FALSE ? 0", "TRUE ? 'TRUE'", "s ? z", "z ? s", "[] ? []", "l ? l", "[1] ? [2]", "[] ? 1", "1 ? []", "{} ? {}", "u ? u", "{} ? []", "u ? 'x'"} {
			fails(t, read(t, strings.Replace(s, "?", op, 1)), row(), api.ErrType)
		}
	}
}

// 11.1: null makes null of all that takes it but IS NULL, whatever the other part is.
func TestNulls(t *testing.T) {
	others := []string{"1", "'x'", "TRUE", "FALSE", "NULL", "[]", "{}", "l", "z", "9223372036854775807", "n", "nothing"}
	for _, op := range []string{"+", "-", "*", "=", "<>", "<", "<=", ">", ">="} {
		for _, o := range others {
			for _, no := range []string{"NULL", "n", "nothing", "l.9", "(-NULL)", "(NULL + 1)"} {
				comes(t, read(t, no+" "+op+" "+o), row(), null())
				comes(t, read(t, o+" "+op+" "+no), row(), null())
			}
		}
	}
	for _, s := range []string{"-NULL", "NOT NULL", "NOT n", "-nothing", "NOT nothing", "--n", "NOT NOT NULL"} {
		comes(t, read(t, s), row(), null())
	}
	for s, want := range map[string]bool{"NULL IS NULL": true, "n IS NULL": true, "nothing IS NULL": true, "(NULL = NULL) IS NULL": true, "a IS NULL": false, "FALSE IS NULL": false, "0 IS NULL": false, "'' IS NULL": false, "[] IS NULL": false, "{} IS NULL": false, "[NULL] IS NULL": false,
		"n IS NOT NULL": false, "a IS NOT NULL": true, "(n IS NULL) IS NULL": false, "(n = 1) IS NULL": true, "(NOT n) IS NULL": true} {
		comes(t, read(t, s), row(), flag(want))
	}
}

// 11.1: NOT is of bools, the signs are of numbers.
func TestWrongKinds(t *testing.T) {
	for _, s := range []string{"NOT 1", "NOT 'x'", "NOT []", "NOT {}", "NOT z", "NOT 0", "NOT ''", "-TRUE", "-'1'", "-[]", "-{}", "-z", "-[1]",
		"1 + 'x'", "'x' + 1", "'x' + 'y'", "1 + TRUE", "TRUE * FALSE", "[] + []", "[1] + 1", "{} - {}", "1 - z", "z * 1", "s + s", "9223372036854775807 + 'x'", "'1' * 9223372036854775807"} {
		fails(t, read(t, s), row(), api.ErrType)
	}
	comes(t, read(t, "NOT TRUE"), row(), flag(false))
	comes(t, read(t, "NOT FALSE"), row(), flag(true))
	comes(t, read(t, "NOT b"), row(), flag(false))
}

// 11.1: AND and OR of each two of null, false, true, what is no bool, and what has an error.
func TestLogic(t *testing.T) {
	values := map[string]string{"null": "n", "false": "FALSE", "true": "b", "none": "a", "other": "l", "over": "9223372036854775807 + a = 1"}
	table := map[string]string{
		"null AND null": "null", "null AND false": "null", "null AND true": "null", "null AND none": "null", "null AND other": "null", "null AND over": "null",
		"false AND null": "false", "false AND false": "false", "false AND true": "false", "false AND none": "false", "false AND other": "false", "false AND over": "false",
		"true AND null": "null", "true AND false": "false", "true AND true": "true", "true AND none": "5", "true AND other": "5", "true AND over": "15",
		"null OR null": "null", "null OR false": "null", "null OR true": "true", "null OR none": "5", "null OR other": "5", "null OR over": "15",
		"false OR null": "null", "false OR false": "false", "false OR true": "true", "false OR none": "5", "false OR other": "5", "false OR over": "15",
		"true OR null": "true", "true OR false": "true", "true OR true": "true", "true OR none": "true", "true OR other": "true", "true OR over": "true",
	}
	for name := range values {
		for _, op := range []string{"AND", "OR"} {
			for first, want := range map[string]string{"none": "5", "other": "5", "over": "15"} {
				table[first+" "+op+" "+name] = want
			}
		}
	}
	if len(table) != 2*6*6 {
		t.Fatal("the table has", len(table))
	}
	answers := map[string]api.Value{"null": null(), "false": flag(false), "true": flag(true)}
	for s, want := range table {
		part := strings.Fields(s)
		l := read(t, values[part[0]]+" "+part[1]+" "+values[part[2]])
		if v, is := answers[want]; is {
			comes(t, l, row(), v)
		} else {
			fails(t, l, row(), map[string]api.Errno{"5": api.ErrType, "15": api.ErrOver}[want])
		}
	}
}

// 11.1: of several errors it is the first one that is met from the left, parts ahead of what is made of them.
func TestTwoErrors(t *testing.T) {
	const most = "9223372036854775807"
	for s, want := range map[string]api.Errno{
		"[" + most + " + 1, -'x']": api.ErrOver, "[-'x', " + most + " + 1]": api.ErrType, "{b: " + most + " + 1, a: -'x'}": api.ErrOver, "{b: -'x', a: " + most + " + 1}": api.ErrType,
		"(" + most + " + 1) + -'x'": api.ErrOver, "-'x' + (" + most + " + 1)": api.ErrType, "'x' + (" + most + " * 2)": api.ErrOver, "(" + most + " * 2) + 'x'": api.ErrOver, "[] < (" + most + " + 1)": api.ErrOver,
		"NULL + -'x'": api.ErrType, "-'x' + NULL": api.ErrType, "NULL = (" + most + " + 1)": api.ErrOver, "(-'x') IS NULL": api.ErrType, "NOT (" + most + " + 1)": api.ErrOver, "-(-'x')": api.ErrType,
		"[[[[[[[]]]]]]] = -'x'": api.ErrDepth, "-'x' = [[[[[[[]]]]]]]": api.ErrType, "[[[[[[[-'x']]]]]]]": api.ErrType, "[[[[[[[" + most + " + 1]]]]]]]": api.ErrOver, "{x: [[[[[[[]]]]]]], a: " + most + " + 1}": api.ErrDepth,
		"a AND -'x' = 1": api.ErrType, "a AND " + most + " + 1 = 1": api.ErrType, "b AND " + most + " + 1": api.ErrOver, "b AND " + most: api.ErrType, "n OR " + most + " + 1": api.ErrOver, "a OR " + most + " + 1 = 1": api.ErrType,
		"(b AND " + most + " + 1 = 1) AND -'x'": api.ErrOver, "(FALSE OR -'x') OR " + most + " + 1 = 1": api.ErrType, "(a = 2 AND -'x') OR " + most + " + 1 = 1": api.ErrOver,
	} {
		fails(t, read(t, s), row(), want)
	}
	// What is not looked at has no error, how deep it may lie.
	for s, want := range map[string]api.Value{
		"a = 2 AND a < 'x'": flag(false), "a = 1 OR a < 'x'": flag(true), "n AND -'x'": null(), "a = 2 AND (b AND -'x' = 1)": flag(false), "a = 1 OR (b AND -'x' = 1)": flag(true),
		"(a = 2 AND -'x') OR b": flag(true), "(a = 1 OR -'x') AND n": null(), "[a = 1 OR -'x', a = 2 AND [[[[[[[]]]]]]]]": all(flag(true), flag(false)), "NOT (a = 2 AND 1)": flag(true), "(n AND 1) IS NULL": flag(true), "a = 2 AND b AND -'x'": flag(false), "a = 1 OR b OR -'x'": flag(true),
	} {
		comes(t, read(t, s), row(), want)
	}
}

// The chapter's examples.
func TestExamples(t *testing.T) {
	r := doc("a", number(1))
	comes(t, read(t, "a + 1 = 2"), r, flag(true))
	comes(t, read(t, "b > 1"), r, null())
	comes(t, read(t, "a = 'x'"), r, flag(false))
	fails(t, read(t, "a < 'x'"), r, api.ErrType)
	comes(t, read(t, "a = 2 AND a < 'x'"), r, flag(false))
}

// wrongExprs are expressions that are not right.
func wrongExprs() [][]api.Step {
	a := path("a")
	return [][]api.Step{
		{step(api.StepNone)}, {step(api.StepCount)}, {step(255)}, {a, a}, {step(api.StepNot)}, {a, step(api.StepAdd)}, {a, a, step(api.StepAdd), a}, {whole(-1)}, {{Kind: api.StepTrue, N: 1}}, {{Kind: api.StepNull, Text: "x"}}, {{Kind: api.StepInt, Text: "1"}},
		{text("\xff")}, {text(xs(1025))}, {path("")}, {path("a.")}, {path(".a")}, {path("0")}, {path("a b")}, {path("select")}, {path("a.01")}, {path("\xff")}, {{Kind: api.StepPath, Text: "a", N: 1}}, {list(-1)}, {list(1)}, {list(65)}, {{Kind: api.StepList, Text: "a"}},
		{a, structOf("a b")}, {a, a, structOf("x", "x")}, {a, {Kind: api.StepStruct, N: 1}}, {{Kind: api.StepStruct, Text: "a"}}, {a, {Kind: api.StepStruct, N: 1, Text: "x,y"}}, {a, a, {Kind: api.StepAnd, N: 1}}, {a, {Kind: api.StepNeg, Text: "-"}},
		make([]api.Step, 129), make1(129, step(api.StepNull)), join(make1(65, a), make1(64, step(api.StepAdd))), {step(api.StepTrue), step(api.StepTrue), step(api.StepOr), step(api.StepOr)}, {step(api.StepTrue), step(api.StepTrue), {Kind: api.StepOr, N: 1}},
	}
}

// wrongRows are values that are not right, and why.
func wrongRows() map[api.Errno][]api.Value {
	return map[api.Errno][]api.Value{
		api.ErrType:  {{Kind: api.KindCount}, {Kind: 255}, {N: 1}, {Kind: api.KindInt, B: true}, {Kind: api.KindStruct, List: []api.Value{{}}}, doc("a", api.Value{S: "x"}), doc("a", all(api.Value{Kind: 99}))},
		api.ErrLong:  {word(xs(1025)), blob(xs(1025)), doc("", number(1)), doc(xs(1025), number(1)), doc("a", word(xs(1025)))},
		api.ErrUtf:   {word("\xff"), doc("\xff", number(1)), doc("a", all(word("\xff")))},
		api.ErrMany:  {all(make([]api.Value, 65)...), {Kind: api.KindStruct, Fields: make([]api.Field, 65)}},
		api.ErrDepth: {nested(7, null()), doc("a", nested(6, null())), nested(65536, null())},
		api.ErrTwice: {doc("a", null(), "a", null()), doc("b", null(), "a", null())},
	}
}

// 11.1: expressions that are not right, rows that are not right, and both at once, though the row is not looked at.
func TestWrongInputs(t *testing.T) {
	holds := func(l []api.Step, row api.Value, want api.Errno) {
		t.Helper()
		if is, why := expr.Holds(l, row); is || why != want {
			t.Errorf("Holds(%s, %s): %v, error %d, not %d", shown(l), show(row), is, why, want)
		}
	}
	fails(t, nil, row(), api.ErrSyntax)
	fails(t, []api.Step{}, row(), api.ErrSyntax)
	for _, l := range wrongExprs() {
		fails(t, l, row(), api.ErrSyntax)
		holds(l, row(), api.ErrSyntax)
		for _, rows := range wrongRows() {
			for _, r := range rows {
				fails(t, l, r, api.ErrSyntax)
				fails(t, nil, r, api.ErrSyntax)
				holds(l, r, api.ErrSyntax)
			}
		}
	}
	for why, rows := range wrongRows() {
		for _, r := range rows {
			for _, s := range []string{"TRUE", "a", "a = 1", "1", "-'x'", "9223372036854775807 + 1", "[[[[[[[]]]]]]]"} {
				fails(t, read(t, s), r, why)
				holds(read(t, s), r, why)
			}
			holds(nil, r, why)
			holds([]api.Step{}, r, why)
		}
	}
}

// 11.1: Holds is true of true alone, and of an empty expression.
func TestHolds(t *testing.T) {
	for _, r := range append(samples(), row()) {
		for _, l := range [][]api.Step{nil, {}, {step(api.StepTrue)}} {
			if is, why := expr.Holds(l, r); !is || why != api.OK {
				t.Errorf("Holds(%s, %s): %v, error %d", shown(l), show(r), is, why)
			}
		}
	}
	for s, want := range map[string]bool{"b": true, "a = 1": true, "a = 2": false, "FALSE": false, "NULL": false, "n": false, "nothing": false, "n = 1": false, "n IS NULL": true, "b AND n": false, "n OR b": true} {
		if is, why := expr.Holds(read(t, s), row()); is != want || why != api.OK {
			t.Errorf("Holds(%s): %v, error %d", s, is, why)
		}
	}
	for s, want := range map[string]api.Errno{"a": api.ErrType, "1": api.ErrType, "0": api.ErrType, "''": api.ErrType, "'TRUE'": api.ErrType, "s": api.ErrType, "z": api.ErrType, "[]": api.ErrType, "{}": api.ErrType, "[TRUE]": api.ErrType, "l": api.ErrType, "u": api.ErrType, "a + 1": api.ErrType,
		"-'x'": api.ErrType, "9223372036854775807 + 1": api.ErrOver, "[[[[[[[]]]]]]]": api.ErrDepth, "b AND 9223372036854775807 + a = 1": api.ErrOver} {
		if is, why := expr.Holds(read(t, s), row()); is || why != want {
			t.Errorf("Holds(%s): %v, error %d", s, is, why)
		}
	}
}
