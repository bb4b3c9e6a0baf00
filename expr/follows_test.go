package expr_test

import (
	"testing"

	"codicil/api"
	"codicil/expr"
	"codicil/value"
)

// 11.1: any expressions, of any rows.
func TestAsSaid(t *testing.T) {
	m := newMaker(111)
	met := map[api.Errno]int{}
	for i := range 20000 {
		l, r := m.right(1+i%60), m.row()
		switch i % 8 {
		case 0:
			l = m.logic(1 + i%100)
		case 1:
			l = m.sums(1 + i%20)
		case 2:
			l = m.junk()
		case 3:
			r = m.wrong()
		}
		met[isAsSaid(t, l, r)]++
		want, why := saidHolds(l, r)
		if is, no := expr.Holds(l, r); is != want || no != why {
			t.Errorf("Holds(%s, %s): %v, error %d, not %v, error %d", shown(l), show(r), is, no, want, why)
		}
		if t.Failed() {
			return
		}
	}
	for _, why := range []api.Errno{api.OK, api.ErrSyntax, api.ErrType, api.ErrOver} {
		if met[why] < 50 {
			t.Errorf("met %v", met)
		}
	}
}

// 11.4: what has a null is null, but for IS NULL, and what a false or a true decides alone.
func TestNullFollows(t *testing.T) {
	m := newMaker(114)
	for range 3000 {
		l, r := m.right(20), m.row()
		_, why := expr.Eval(l, r)
		if why != api.OK {
			continue
		}
		no := steps(step(api.StepNull))
		for _, s := range binary[:9] {
			comes(t, join(l, no, steps(s)), r, null())
			comes(t, join(no, l, steps(s)), r, null())
		}
		comes(t, append(no[:1:1], step(api.StepNeg)), r, null())
		comes(t, append(no[:1:1], step(api.StepNot)), r, null())
		comes(t, append(no[:1:1], step(api.StepIsNull)), r, flag(true))
	}
	for _, s := range []string{"FALSE AND NULL", "NULL OR TRUE", "TRUE OR NULL"} {
		if v, why := expr.Eval(read(t, s), null()); v.Kind != api.KindBool || why != api.OK {
			t.Errorf("%s: %s, error %d", s, show(v), why)
		}
	}
	for _, s := range []string{"TRUE AND NULL", "NULL AND TRUE", "NULL AND NULL", "FALSE OR NULL", "NULL OR FALSE", "NULL OR NULL"} {
		comes(t, read(t, s), null(), null())
	}
}

// 11.5: of bools NOT, AND and OR are as they are; NOT of = is <>.
func TestLogicFollows(t *testing.T) {
	bools := []api.Step{step(api.StepFalse), step(api.StepTrue)}
	for i, a := range bools {
		comes(t, steps(a, step(api.StepNot)), row(), flag(i == 0))
		comes(t, steps(a, step(api.StepNot), step(api.StepNot)), row(), flag(i == 1))
		for j, b := range bools {
			comes(t, steps(a, b, step(api.StepAnd)), row(), flag(i == 1 && j == 1))
			comes(t, steps(a, b, step(api.StepOr)), row(), flag(i == 1 || j == 1))
			comes(t, steps(a, b, step(api.StepAnd), step(api.StepNot)), row(), flag(i == 0 || j == 0))
		}
	}
	for _, x := range samples() {
		for _, y := range samples() {
			r := doc("x", x, "y", y)
			unlike, why := expr.Eval(steps(path("x"), path("y"), step(api.StepUnlike)), r)
			if why != api.OK {
				t.Errorf("%s <> %s: error %d", show(x), show(y), why)
			}
			comes(t, steps(path("x"), path("y"), step(api.StepEqual), step(api.StepNot)), r, unlike)
		}
	}
	m := newMaker(115)
	for range 3000 {
		a, b, r := m.right(20), m.right(20), m.row()
		v, why := expr.Eval(join(a, b, steps(step(api.StepUnlike))), r)
		w, no := expr.Eval(join(a, b, steps(step(api.StepEqual), step(api.StepNot))), r)
		if !value.Same(v, w) || why != no {
			t.Fatalf("%s and %s of %s: %s, error %d; %s, error %d", shown(a), shown(b), show(r), show(v), why, show(w), no)
		}
	}
}

// 11.6: what an expression comes to is what its last operator makes of what its parts come to: these may be fields of a row as well.
func TestInPart(t *testing.T) {
	m := newMaker(116)
	met := map[api.Errno]int{}
	for i := range 8000 {
		l, r := m.right(3+i%60), m.row()
		a, b, is := expr.Parts(l)
		last := l[len(l)-1]
		if !is {
			continue
		}
		x, noX := expr.Eval(a, r)
		y, noY := expr.Eval(b, r)
		got, why := expr.Eval(l, r)
		met[why]++
		if noX != api.OK {
			fails(t, l, r, noX)
			continue
		}
		fields := doc("x", x)
		if noY == api.OK {
			fields = doc("x", x, "y", y)
		}
		second := steps(path("y"))
		if noY != api.OK {
			// An error in the second part shows, or is not looked at, wherever else it comes from.
			second = map[api.Errno][]api.Step{api.ErrType: read(t, "-'x'"), api.ErrOver: read(t, "-9223372036854775807 - 2"), api.ErrDepth: read(t, "[[[[[[[]]]]]]]")}[noY]
		}
		want, no := expr.Eval(join(steps(path("x")), second, steps(last)), fields)
		if !value.Same(got, want) || why != no {
			t.Fatalf("%s of %s: %s, error %d, not %s, error %d", shown(l), show(r), show(got), why, show(want), no)
		}
	}
	if met[api.OK] < 500 || met[api.ErrType] < 500 {
		t.Errorf("met %v", met)
	}
}

// 11.1: what an expression comes to is a right value, of any right row.
func TestRightAnswers(t *testing.T) {
	m := newMaker(117)
	for i := range 5000 {
		l, r := m.right(1+i%128), m.row()
		v, why := expr.Eval(l, r)
		if no := value.Check(v); no != api.OK {
			t.Fatalf("%s of %s: %s, error %d, which has the error %d", shown(l), show(r), show(v), why, no)
		}
	}
}
