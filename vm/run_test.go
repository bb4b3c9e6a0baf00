package vm_test

import (
	"math"
	"slices"
	"testing"

	"codicil/api"
	"codicil/code"
	"codicil/parse"
	"codicil/vm"
)

// takes is how many values a step takes.
func takes(s api.Step) int {
	many, _ := parse.Takes(s)
	return many
}

// 14.2: what programs of expressions come to, how much fuel they take, and how much they leave beside errors.
func TestRun(t *testing.T) {
	const most = "9223372036854775807"
	for s, want := range map[string]struct {
		value api.Value
		took  int
		why   api.Errno
	}{
		"a": {number(1), 1, 0}, "'x'": {word("x"), 1, 0}, "nothing": {null(), 1, 0}, "[]": {all(), 1, 0}, "{}": {doc(), 1, 0}, "-a": {number(-1), 2, 0}, "a + 1": {number(2), 3, 0}, "a + 1 = 2": {flag(true), 5, 0}, "[a, b]": {all(number(1), flag(true)), 3, 0}, "{y: a, x: s}": {doc("x", word("x"), "y", number(1)), 3, 0},
		"b AND b": {flag(true), 4, 0}, "b AND FALSE": {flag(false), 4, 0}, "b AND n": {null(), 4, 0}, "FALSE AND b": {flag(false), 2, 0}, "n AND b": {null(), 2, 0}, "FALSE AND a": {flag(false), 2, 0}, "n AND -s": {null(), 2, 0},
		"b OR b": {flag(true), 2, 0}, "b OR a": {flag(true), 2, 0}, "FALSE OR b": {flag(true), 4, 0}, "FALSE OR FALSE": {flag(false), 4, 0}, "FALSE OR n": {null(), 4, 0}, "n OR FALSE": {null(), 4, 0}, "n OR b": {flag(true), 4, 0}, "n OR n": {null(), 4, 0},
		"(b AND b) AND b": {flag(true), 7, 0}, "(FALSE AND b) AND b": {flag(false), 3, 0}, "b AND (FALSE AND b)": {flag(false), 5, 0}, "(b OR a) OR a": {flag(true), 3, 0}, "FALSE OR (b OR a)": {flag(true), 5, 0}, "(FALSE AND a) OR b": {flag(true), 5, 0}, "(b OR a) AND n": {null(), 5, 0},
		"NOT (b AND FALSE)": {flag(true), 5, 0}, "[FALSE AND a, b OR a]": {all(flag(false), flag(true)), 5, 0}, "(n AND a) IS NULL": {flag(true), 3, 0}, "(b AND b) = (n OR b)": {flag(true), 9, 0},
		"-s": {null(), 2, api.ErrType}, "a + s": {null(), 3, api.ErrType}, most + " + a": {null(), 3, api.ErrOver}, "[[[[[[[]]]]]]]": {null(), 7, api.ErrDepth}, "a AND b": {null(), 2, api.ErrType}, "b AND a": {null(), 4, api.ErrType}, "a OR b": {null(), 2, api.ErrType}, "FALSE OR a": {null(), 4, api.ErrType}, "n OR s": {null(), 4, api.ErrType},
		"b AND -s": {null(), 4, api.ErrType}, "n OR " + most + " * 2": {null(), 5, api.ErrOver}, "[-s, " + most + " + 1]": {null(), 2, api.ErrType}, "[" + most + " + 1, -s]": {null(), 3, api.ErrOver}, "(b AND a) OR b": {null(), 4, api.ErrType}, "b AND (n OR a)": {null(), 6, api.ErrType},
	} {
		p := compiled(t, s)
		for _, fuel := range []int{want.took, want.took + 1, want.took + 2, 100, len(p), api.MaxFuel - 1, api.MaxFuel} {
			if fuel >= want.took {
				ends(t, p, row(), fuel, want.value, fuel-want.took, want.why)
			}
		}
		for fuel := range want.took {
			ends(t, p, row(), fuel, null(), 0, api.ErrFuel)
		}
	}
}

// The chapter's example.
func TestExample(t *testing.T) {
	ends(t, compiled(t, "a AND b"), doc("a", flag(false)), 10, flag(false), 8, api.OK)
}

// 14.2: AND, OR, FLAG and JOIN, of each value as the last one, with each one ahead of it.
func TestOps(t *testing.T) {
	push := map[string]api.Instr{"null": do(step(api.StepNull)), "false": do(step(api.StepFalse)), "true": do(step(api.StepTrue)), "int": do(whole(0)), "text": do(text("")), "blob": do(path("z")), "list": do(list(0)), "struct": do(structOf())}
	values := map[string]api.Value{"null": null(), "false": flag(false), "true": flag(true), "int": number(0), "text": word(""), "blob": blob("\xff\x00"), "list": all(), "struct": doc()}
	joined := map[string]string{
		"null null": "null", "null false": "null", "null true": "true", "false null": "null", "false false": "false", "false true": "true", "true null": "null", "true false": "false", "true true": "true",
	}
	two := do(list(2))
	for first, ahead := range push {
		for second, last := range push {
			other := second != "null" && second != "true" && second != "false"
			a, b := values[first], values[second]
			fails := func(p []api.Instr) {
				t.Helper()
				ends(t, p, row(), 9, null(), 6, api.ErrType)
			}
			// AND jumps behind the number, unless it takes true away, and the number stands in its place.
			p := program(ahead, last, and(4), do(whole(8)), two)
			switch {
			case other:
				fails(p)
			case second == "true":
				ends(t, p, row(), 9, all(a, number(8)), 4, api.OK)
			default:
				ends(t, p, row(), 9, all(a, b), 5, api.OK)
			}
			// OR jumps over IS NULL.
			p = program(ahead, last, or(4), do(step(api.StepIsNull)), two)
			switch {
			case other:
				fails(p)
			case second == "true":
				ends(t, p, row(), 9, all(a, b), 5, api.OK)
			default:
				ends(t, p, row(), 9, all(a, flag(second == "null")), 4, api.OK)
			}
			p = program(ahead, last, flagOp, two)
			if other {
				fails(p)
			} else {
				ends(t, p, row(), 9, all(a, b), 5, api.OK)
			}
			p = program(ahead, last, joinOp)
			if want, is := joined[first+" "+second]; is {
				ends(t, p, row(), 9, values[want], 6, api.OK)
			} else {
				fails(p)
			}
		}
	}
}

// 14.2: jumps to the end, to the next place, from jump to jump.
func TestJumps(t *testing.T) {
	yes, no, nil1 := do(step(api.StepTrue)), do(step(api.StepFalse)), do(step(api.StepNull))
	not := do(step(api.StepNot))
	ends(t, program(yes, or(2)), row(), 9, flag(true), 7, api.OK)
	ends(t, program(no, or(2)), row(), 9, flag(false), 7, api.OK)
	ends(t, program(yes, or(3), not), row(), 9, flag(true), 7, api.OK)
	ends(t, program(no, or(3), not), row(), 9, flag(true), 6, api.OK)
	ends(t, program(yes, and(3), do(whole(5))), row(), 9, number(5), 6, api.OK)
	ends(t, program(no, and(3), do(whole(5))), row(), 9, flag(false), 7, api.OK)
	ends(t, program(nil1, and(3), do(whole(5))), row(), 9, null(), 7, api.OK)
	// Into the middle of another one's part.
	p := program(yes, or(4), not, not, not)
	ends(t, p, row(), 9, flag(false), 6, api.OK)
	p[0] = no
	ends(t, p, row(), 9, flag(true), 4, api.OK)
	// From jump to jump: each takes one of fuel.
	ends(t, program(yes, or(2), or(4), not, or(6), not), row(), 9, flag(true), 5, api.OK)
	ends(t, program(no, and(5), do(whole(1)), do(whole(2)), do(step(api.StepAdd)), and(7), yes), row(), 9, flag(false), 6, api.OK)
	ends(t, program(yes, and(5), do(whole(1)), do(whole(2)), do(step(api.StepAdd)), and(7), yes), row(), 9, null(), 3, api.ErrType)
	// The longest run there is.
	long := slices.Concat(program(no), times(255, or(256)))
	ends(t, long, row(), 256, flag(false), 0, api.OK)
	ends(t, long, row(), 255, null(), 0, api.ErrFuel)
	long[0] = yes
	ends(t, long, row(), 256, flag(true), 254, api.OK)
	ends(t, slices.Concat(times(128, do(whole(1))), times(127, do(step(api.StepAdd)))), row(), api.MaxFuel, number(128), api.MaxFuel-255, api.OK)
}

// 14.2: what stands on the stack is taken in its order, whatever was taken ahead of it.
func TestStackOrder(t *testing.T) {
	n := func(i int64) api.Instr { return do(whole(i)) }
	sub := do(step(api.StepSub))
	ends(t, program(n(9), n(5), n(3), sub, sub), row(), 9, number(7), 4, api.OK)
	ends(t, program(n(9), n(5), sub, n(3), sub), row(), 9, number(1), 4, api.OK)
	ends(t, program(n(1), n(2), n(3), do(list(2)), n(4), do(list(3))), row(), 9, all(number(1), all(number(2), number(3)), number(4)), 3, api.OK)
	ends(t, program(n(1), n(2), do(list(2)), n(3), n(4), do(list(2)), do(list(2))), row(), 9, all(all(number(1), number(2)), all(number(3), number(4))), 2, api.OK)
	ends(t, program(n(1), n(2), do(structOf("y", "x")), n(3), do(list(0)), do(list(3))), row(), 9, all(doc("x", number(2), "y", number(1)), number(3), all()), 3, api.OK)
	ends(t, program(do(path("l")), do(path("l")), do(list(2)), do(path("u")), do(list(2))), row(), 9, all(all(row().Fields[2].Value, row().Fields[2].Value), row().Fields[5].Value), 4, api.OK)
}

// 14.2: fuel that is outside of what may be, and at its ends.
func TestFuel(t *testing.T) {
	p := compiled(t, "a = 1")
	for _, fuel := range []int{math.MinInt, -api.MaxFuel, -2, -1, api.MaxFuel + 1, api.MaxFuel + 2, math.MaxInt} {
		refused(t, p, row(), fuel, api.ErrRange)
	}
	for _, fuel := range []int{0, 1, 2} {
		ends(t, p, row(), fuel, null(), 0, api.ErrFuel)
	}
	for _, fuel := range []int{3, 4, api.MaxFuel - 1, api.MaxFuel} {
		ends(t, p, row(), fuel, flag(true), fuel-3, api.OK)
	}
	// An error of the run that would come later is not there yet; one that is there leaves fuel, none at last.
	p = compiled(t, "a + s")
	for fuel := range 3 {
		ends(t, p, row(), fuel, null(), 0, api.ErrFuel)
	}
	ends(t, p, row(), 3, null(), 0, api.ErrType)
	ends(t, p, row(), 4, null(), 1, api.ErrType)
	ends(t, p, row(), api.MaxFuel, null(), api.MaxFuel-3, api.ErrType)
}

// 14.2: Holds of null, of bools, of what is neither.
func TestHolds(t *testing.T) {
	for s, want := range map[string]bool{"b": true, "TRUE": true, "FALSE": false, "NULL": false, "n": false, "nothing": false, "a = 1": true, "a = 2": false, "n = 1": false, "n IS NULL": true, "b AND n": false, "n OR b": true} {
		p := compiled(t, s)
		if is, _, why := vm.Holds(p, row(), 9); is != want || why != api.OK {
			t.Errorf("Holds(%s): %v, error %d", s, is, why)
		}
	}
	for s, left := range map[string]int{"a": 8, "0": 8, "1": 8, "''": 8, "'TRUE'": 8, "z": 8, "[]": 8, "{}": 8, "l": 8, "[b]": 7, "a + 1": 6, "{x: b}": 7, "-a": 7} {
		p := compiled(t, s)
		if is, rest, why := vm.Holds(p, row(), 9); is || rest != left || why != api.ErrType {
			t.Errorf("Holds(%s): %v, %d left, error %d", s, is, rest, why)
		}
		if is, rest, why := vm.Holds(p, row(), 9-left); is || rest != 0 || why != api.ErrType {
			t.Errorf("Holds(%s) with just enough: %v, %d left, error %d", s, is, rest, why)
		}
		if is, rest, why := vm.Holds(p, row(), 8-left); is || rest != 0 || why != api.ErrFuel {
			t.Errorf("Holds(%s) with too little: %v, %d left, error %d", s, is, rest, why)
		}
	}
}

// 14.2: programs, rows and fuel that are wrong, one by one and at once.
func TestRunWrong(t *testing.T) {
	fine := program(do(path("a")))
	fuels := []int{-1, 0, 1, api.MaxFuel, api.MaxFuel + 1}
	for _, p := range wrongPrograms() {
		for _, fuel := range fuels {
			refused(t, p, row(), fuel, api.ErrForm)
			refused(t, p, word("\xff"), fuel, api.ErrForm)
		}
	}
	for why, rows := range wrongValues() {
		for _, r := range rows {
			for _, fuel := range fuels {
				refused(t, fine, r, fuel, why)
				refused(t, compiled(t, "-'x'"), r, fuel, why)
			}
			refused(t, program(do(whole(1))), r, 5, why)
			refused(t, nil, r, 5, api.ErrForm)
		}
	}
}

// 14.2: any programs, most of them written by hand, with any fuel.
func TestRunAny(t *testing.T) {
	m := newMaker(143)
	met := map[api.Errno]int{}
	ops := map[api.Op]int{}
	for i := range 30000 {
		p, r, fuel := m.program(2+i%40), m.row(), m.Intn(60)
		switch i % 10 {
		case 0:
			p, _ = code.Compile(m.expr(1 + i%60))
		case 1:
			p, _ = code.Compile(m.logic(1 + i%60))
		case 2:
			p, fuel = m.program(255), api.MaxFuel
		case 3:
			r = m.wrong()
		case 4:
			fuel = m.Intn(5)
		case 5:
			p[m.Intn(len(p))].Op = api.Op(m.Intn(7))
		}
		why := runAsSaid(t, p, r, fuel)
		met[why]++
		for _, in := range p {
			ops[in.Op]++
		}
		if t.Failed() {
			return
		}
	}
	if met[api.OK] < 3000 || met[api.ErrType] < 3000 || met[api.ErrFuel] < 1000 || met[api.ErrForm] < 500 {
		t.Errorf("met %v", met)
	}
	for op := api.OpStep; op < api.OpCount; op++ {
		if ops[op] < 1000 {
			t.Errorf("met %v", ops)
		}
	}
}
