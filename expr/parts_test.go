package expr_test

import (
	"math"
	"slices"
	"testing"

	"codicil/api"
	"codicil/expr"
	"codicil/value"
)

// isLiteral fails, unless Literal answers that.
func isLiteral(t *testing.T, l []api.Step, want api.Value, whether bool) {
	t.Helper()
	if v, is := expr.Literal(l); is != whether || !value.Same(v, want) {
		t.Errorf("Literal(%s): %s, %v, not %s", shown(l), show(v), is, show(want))
	}
}

// 11.2: constants.
func TestLiteral(t *testing.T) {
	neg := step(api.StepNeg)
	isLiteral(t, steps(step(api.StepTrue)), flag(true), true)
	isLiteral(t, steps(step(api.StepFalse)), flag(false), true)
	for _, n := range []int64{0, 1, 5, math.MaxInt64} {
		isLiteral(t, steps(whole(n)), number(n), true)
		isLiteral(t, steps(whole(n), neg), number(-n), true)
		isLiteral(t, steps(whole(n), neg, neg), null(), false)
		isLiteral(t, steps(whole(n), step(api.StepNot)), null(), false)
		isLiteral(t, steps(whole(n), step(api.StepIsNull)), null(), false)
		isLiteral(t, steps(whole(n), list(1)), null(), false)
		isLiteral(t, steps(whole(n), structOf("a")), null(), false)
		isLiteral(t, steps(whole(n), whole(n)), null(), false)
		isLiteral(t, steps(neg, whole(n)), null(), false)
		isLiteral(t, steps(whole(n), neg, list(1)), null(), false)
	}
	for _, s := range []string{"", "a", "it's", "é", "\x00", xs(1024), "TRUE"} {
		isLiteral(t, steps(text(s)), word(s), true)
		isLiteral(t, steps(text(s), neg), null(), false)
	}
	for _, s := range steps(step(api.StepTrue), step(api.StepFalse), step(api.StepNull), path("a"), list(0), structOf()) {
		isLiteral(t, steps(s, neg), null(), false)
		isLiteral(t, steps(s, step(api.StepNot)), null(), false)
		isLiteral(t, steps(s, s, step(api.StepEqual)), null(), false)
	}
	for _, s := range []string{"NULL", "a", "a.b", "[]", "{}", "[1]", "{a: 1}", "1 + 1", "-1 + 0", "NOT TRUE", "TRUE AND TRUE", "1 = 1", "--1", "-(-0)", "-a", "-NULL", "1 IS NULL", "1 OR 1", "0 - 1"} {
		isLiteral(t, read(t, s), null(), false)
	}
	isLiteral(t, nil, null(), false)
	isLiteral(t, []api.Step{}, null(), false)
	for _, l := range wrongExprs() {
		isLiteral(t, l, null(), false)
	}
}

// 11.2: a constant whose fields, or whose sign's, are not right is none.
func TestWrongLiterals(t *testing.T) {
	for _, s := range steps(api.Step{Kind: api.StepTrue, N: 1}, api.Step{Kind: api.StepTrue, Text: "x"}, api.Step{Kind: api.StepFalse, N: -1}, api.Step{Kind: api.StepFalse, Text: "x"}, whole(-1), whole(math.MinInt64), api.Step{Kind: api.StepInt, N: 1, Text: "1"}, api.Step{Kind: api.StepText, Text: "x", N: 1}, text("\xff"), text(xs(1025))) {
		isLiteral(t, steps(s), null(), false)
		isLiteral(t, steps(s, step(api.StepNeg)), null(), false)
	}
	isLiteral(t, steps(whole(1), api.Step{Kind: api.StepNeg, N: 1}), null(), false)
	isLiteral(t, steps(whole(1), api.Step{Kind: api.StepNeg, Text: "-"}), null(), false)
}

// parted fails, unless Parts answers that.
func parted(t *testing.T, l, first, second []api.Step, whether bool) {
	t.Helper()
	if a, b, is := expr.Parts(l); is != whether || !slices.Equal(a, first) || !slices.Equal(b, second) {
		t.Errorf("Parts(%s): %s and %s, %v, not %s and %s", shown(l), shown(a), shown(b), is, shown(first), shown(second))
	}
}

// 11.2: of each step that takes two, whatever its parts are.
func TestParts(t *testing.T) {
	parts := []string{"a", "1", "NULL", "TRUE", "'x'", "-1", "NOT a", "a IS NULL", "a + 1", "a = 1 AND b", "[]", "{}", "[1, 2]", "{a: 1, b: [2, a.b.0]}", "a + (b + c)", "(a + b) + c", "(a AND b) OR (c AND d)", "- - a"}
	for _, first := range parts {
		for _, second := range parts {
			a, b := read(t, first), read(t, second)
			for _, s := range binary {
				parted(t, join(a, b, steps(s)), a, b, true)
			}
			parted(t, join(a, b, steps(list(2))), a, b, true)
			parted(t, join(a, b, steps(structOf("y", "x"))), a, b, true)
			parted(t, join(a, b, a, steps(list(3))), nil, nil, false)
			parted(t, join(a, b, steps(list(2), list(1))), nil, nil, false)
			parted(t, join(a, b), nil, nil, false)
			for _, s := range unary {
				parted(t, join(a, b, steps(binary[0], s)), nil, nil, false)
			}
		}
		parted(t, read(t, "("+first+") IS NULL"), nil, nil, false)
		parted(t, read(t, "["+first+"]"), nil, nil, false)
		parted(t, read(t, "{x: "+first+"}"), nil, nil, false)
	}
	for _, s := range []string{"a", "1", "NULL", "TRUE", "FALSE", "'x'", "[]", "{}", "-a", "NOT a = b", "a IS NULL", "[a, b, c]", "{a: 1, b: 2, c: 3}"} {
		parted(t, read(t, s), nil, nil, false)
	}
	parted(t, nil, nil, nil, false)
	parted(t, []api.Step{}, nil, nil, false)
	for _, l := range wrongExprs() {
		parted(t, l, nil, nil, false)
	}
}

// 11.2: of the longest ones, on either side.
func TestLongParts(t *testing.T) {
	var left, right []api.Step
	for i := range 63 {
		left = append(left, whole(int64(i)))
		if i > 0 {
			left = append(left, step(api.StepAdd))
		}
		right = append(right, text(xs(1024)))
	}
	right = append(right, make1(62, step(api.StepSub))...)
	one := steps(path("a"))
	for _, l := range [][]api.Step{left, right} {
		parted(t, join(l, one, steps(step(api.StepAnd))), l, one, true)
		parted(t, join(one, l, steps(step(api.StepOr))), one, l, true)
		parted(t, join(l, one, steps(step(api.StepAnd), step(api.StepNot))), nil, nil, false)
		parted(t, join(l, one, one, one, steps(step(api.StepAnd), step(api.StepAnd), step(api.StepAnd))), nil, nil, false)
	}
}

// 11.2: of any.
func TestAnyParts(t *testing.T) {
	m := newMaker(112)
	met := map[bool]int{}
	for i := range 4000 {
		l := m.right(1 + i%128)
		if i%3 == 0 {
			l = m.junk()
		}
		a, b, is := saidParts(l)
		parted(t, l, a, b, is)
		met[is]++
		v, is := saidLiteral(l)
		isLiteral(t, l, v, is)
		if t.Failed() {
			return
		}
	}
	if met[true] < 500 || met[false] < 500 {
		t.Errorf("met %v", met)
	}
}
