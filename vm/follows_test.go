package vm_test

import (
	"testing"

	"codicil/api"
	"codicil/code"
	"codicil/expr"
	"codicil/value"
	"codicil/vm"
)

// 14.4, P6: with fuel enough the run of an expression's program comes to what the expression does, errors included.
func TestAsExpressions(t *testing.T) {
	m := newMaker(144)
	met := map[api.Errno]int{}
	for i := range 12000 {
		l, r := m.expr(1+i%api.MaxExpr), m.row()
		if i%3 == 0 {
			l = m.logic(1 + i%api.MaxExpr)
		}
		p, why := code.Compile(l)
		if why != api.OK {
			t.Fatalf("Compile(%s): error %d", show(l), why)
		}
		want, no := expr.Eval(l, r)
		v, _, why := vm.Run(p, r, len(p))
		if why != no || !value.Same(v, want) {
			t.Fatalf("%s of %s: %s, error %d, not %s, error %d", show(l), show(r), show(v), why, show(want), no)
		}
		holds, no := expr.Holds(l, r)
		is, _, why := vm.Holds(p, r, len(p))
		if why != no || is != holds {
			t.Fatalf("%s of %s: %v, error %d, not %v, error %d", show(l), show(r), is, why, holds, no)
		}
		met[no]++
	}
	if met[api.OK] < 1000 || met[api.ErrType] < 1000 {
		t.Errorf("met %v", met)
	}
}

// 14.4: so it is of the expressions that a table of logic has: each two of null, bools, what is neither, and errors.
func TestLogicAsExpressions(t *testing.T) {
	parts := []string{"n", "FALSE", "b", "a", "l", "u", "z", "9223372036854775807 + a", "-s", "[[[[[[[]]]]]]]", "b AND n", "n OR b", "NOT b"}
	for _, x := range parts {
		for _, y := range parts {
			for _, op := range []string{"AND", "OR", "=", "<", "+"} {
				l := read(t, "("+x+") "+op+" ("+y+")")
				want, why := expr.Eval(l, row())
				p, _ := code.Compile(l)
				v, left, no := vm.Run(p, row(), api.MaxFuel)
				if no != why || !value.Same(v, want) || left < api.MaxFuel-len(p) {
					t.Errorf("%s %s %s: %s, %d left, error %d, not %s, error %d", x, op, y, show(v), left, no, show(want), why)
				}
			}
		}
	}
}

// 14.5: with more fuel a run comes to the same, and leaves as much more; with less than it took it is ErrFuel. 14.6: it takes no more than its program has instructions.
func TestFuelFollows(t *testing.T) {
	m := newMaker(145)
	met := map[api.Errno]int{}
	for i := range 1500 {
		p, r := m.program(2+i%40), m.row()
		if i%2 == 0 {
			p, _ = code.Compile(m.logic(1 + i%40))
		}
		want, left, why := vm.Run(p, r, len(p))
		took := len(p) - left
		met[why]++
		if why == api.ErrFuel || took < 1 || took > len(p) {
			t.Fatalf("%s of %s: error %d, took %d", shown(p), show(r), why, took)
		}
		for _, more := range []int{0, 1, 2, 77, api.MaxFuel - took} {
			ends(t, p, r, took+more, want, more, why)
		}
		for fuel := range took {
			ends(t, p, r, fuel, null(), 0, api.ErrFuel)
		}
		if t.Failed() {
			return
		}
	}
	if met[api.OK] < 300 || met[api.ErrType] < 300 {
		t.Errorf("met %v", met)
	}
}

// P5, P6: a program that was written as bytes and read again comes to the same.
func TestReadPrograms(t *testing.T) {
	m := newMaker(146)
	for i := range 2000 {
		p, r := m.program(2+i%60), m.row()
		s, why := code.Text(p)
		q, no := code.Read(s)
		if why != api.OK || no != api.OK {
			t.Fatalf("%s: errors %d, %d", shown(p), why, no)
		}
		want, left, why := vm.Run(p, r, 30)
		ends(t, q, r, 30, want, left, why)
		if t.Failed() {
			return
		}
	}
}
