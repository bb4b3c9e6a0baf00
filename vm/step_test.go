package vm_test

import (
	"fmt"
	"math"
	"testing"

	"codicil/api"
	"codicil/value"
	"codicil/vm"
)

// 14.1: what takes nothing, of any row.
func TestStepLeaves(t *testing.T) {
	for _, r := range append(samples(), row()) {
		for _, none := range [][]api.Value{nil, {}} {
			made(t, step(api.StepNull), r, none, null())
			made(t, step(api.StepTrue), r, none, flag(true))
			made(t, step(api.StepFalse), r, none, flag(false))
			for _, n := range []int64{0, 1, 7, math.MaxInt64} {
				made(t, whole(n), r, none, number(n))
			}
			for _, s := range []string{"", "a", "it's", "é", "\x00", xs(1024)} {
				made(t, text(s), r, none, word(s))
			}
			made(t, list(0), r, none, all())
			made(t, structOf(), r, none, doc())
			made(t, path("nothing"), r, none, null())
		}
		for _, s := range leaves {
			stepAsSaid(t, s, r, nil)
		}
	}
	for s, want := range map[string]api.Value{
		"a": number(1), "b": flag(true), "n": null(), "z": blob("\xff\x00"), "l.0": number(7), "l.2": doc("x", word("in")), "l.2.x": word("in"), "l.3": null(), "u.0": word("nought"), "u.inner": doc("deep", number(5)), "u.inner.deep": number(5),
		"x": null(), "l.4": null(), "l.x": null(), "a.b": null(), "a.0": null(), "s.0": null(), "u.inner.deep.0": null(), "n100": null(),
	} {
		made(t, path(s), row(), nil, want)
	}
	// The row's own names, whatever they are.
	made(t, path("n100"), doc("n100", number(5), "n101", number(6)), nil, number(5))
	made(t, path("n101"), doc("n100", number(5), "n101", number(6)), nil, number(6))
	deep := nested(5, number(1))
	made(t, path("a"), doc("a", deep), nil, deep)
}

// 14.1: each step that takes one or two, with values of each kind on either side.
func TestStepAllKinds(t *testing.T) {
	met := map[api.Errno]int{}
	for _, x := range samples() {
		for _, s := range unary {
			met[stepAsSaid(t, s, row(), []api.Value{x})]++
		}
		for _, y := range samples() {
			for _, s := range append(pairing[:9:9], list(2), structOf("y", "x"), structOf("x", "y")) {
				met[stepAsSaid(t, s, row(), []api.Value{x, y})]++
			}
		}
	}
	if met[api.OK] < 1000 || met[api.ErrType] < 1000 || met[api.ErrOver] < 5 || met[api.ErrDepth] < 100 || len(met) != 4 {
		t.Errorf("met %v", met)
	}
}

// 14.1: numbers at the ends, and one beyond.
func TestStepNumbers(t *testing.T) {
	const least, most = math.MinInt64, math.MaxInt64
	for _, x := range []struct {
		kind api.StepKind
		a, b int64
		want int64
		why  api.Errno
	}{
		{api.StepAdd, 1, 1, 2, 0}, {api.StepAdd, most, 0, most, 0}, {api.StepAdd, least, most, -1, 0}, {api.StepAdd, most, 1, 0, api.ErrOver}, {api.StepAdd, least, -1, 0, api.ErrOver}, {api.StepAdd, 1, most, 0, api.ErrOver},
		{api.StepSub, 3, 5, -2, 0}, {api.StepSub, -1, most, least, 0}, {api.StepSub, -1, least, most, 0}, {api.StepSub, 0, least, 0, api.ErrOver}, {api.StepSub, -2, most, 0, api.ErrOver}, {api.StepSub, least, 1, 0, api.ErrOver},
		{api.StepMul, -3, 4, -12, 0}, {api.StepMul, least, 1, least, 0}, {api.StepMul, 1 << 32, -1 << 31, least, 0}, {api.StepMul, 1 << 32, 1 << 31, 0, api.ErrOver}, {api.StepMul, least, -1, 0, api.ErrOver}, {api.StepMul, -1, least, 0, api.ErrOver}, {api.StepMul, most, 2, 0, api.ErrOver},
	} {
		two := []api.Value{number(x.a), number(x.b)}
		if x.why == api.OK {
			made(t, step(x.kind), row(), two, number(x.want))
		} else {
			unmade(t, step(x.kind), row(), two, x.why)
		}
	}
	made(t, step(api.StepNeg), row(), []api.Value{number(most)}, number(-most))
	unmade(t, step(api.StepNeg), row(), []api.Value{number(least)}, api.ErrOver)
}

// 14.1: the first value is the first one, the second one the second.
func TestStepSides(t *testing.T) {
	two := []api.Value{number(2), number(3)}
	for kind, want := range map[api.StepKind]api.Value{
		api.StepAdd: number(5), api.StepSub: number(-1), api.StepMul: number(6), api.StepEqual: flag(false), api.StepUnlike: flag(true), api.StepLess: flag(true), api.StepMost: flag(true), api.StepMore: flag(false), api.StepLeast: flag(false),
	} {
		made(t, step(kind), row(), two, want)
		// The row is nothing to a step that is no path.
		made(t, step(kind), doc("a", number(7), "b", number(6), "n100", number(9), "n101", number(8)), two, want)
	}
	made(t, list(2), row(), two, all(number(2), number(3)))
	made(t, structOf("b", "a"), row(), two, doc("a", number(3), "b", number(2)))
	made(t, structOf("a", "b"), row(), two, doc("a", number(2), "b", number(3)))
	made(t, structOf("n101", "n100"), row(), two, doc("n100", number(3), "n101", number(2)))
}

// 14.1: null makes null of all that takes it but IS NULL, lists and structs, whatever the other one is.
func TestStepNulls(t *testing.T) {
	for _, v := range samples() {
		for _, s := range pairing[:9] {
			made(t, s, row(), []api.Value{null(), v}, null())
			made(t, s, row(), []api.Value{v, null()}, null())
		}
		made(t, step(api.StepIsNull), row(), []api.Value{v}, flag(v.Kind == api.KindNull))
	}
	made(t, step(api.StepNeg), row(), []api.Value{null()}, null())
	made(t, step(api.StepNot), row(), []api.Value{null()}, null())
	made(t, list(2), row(), []api.Value{null(), null()}, all(null(), null()))
	made(t, structOf("a"), row(), []api.Value{null()}, doc("a", null()))
}

// 14.1: values that are nested as deep as may be are taken; what has them within it is ErrDepth.
func TestStepDeep(t *testing.T) {
	for _, deep := range []api.Value{nested(6, number(1)), nested(5, all()), nested(5, doc("a", number(1))), doc("a", nested(5, number(1))), doc("a", all(doc("b", all(doc("c", all(word("x")))))))} {
		other := nested(6, number(2))
		made(t, step(api.StepIsNull), row(), []api.Value{deep}, flag(false))
		made(t, step(api.StepEqual), row(), []api.Value{deep, twin(deep)}, flag(true))
		made(t, step(api.StepUnlike), row(), []api.Value{deep, twin(deep)}, flag(false))
		made(t, step(api.StepEqual), row(), []api.Value{deep, other}, flag(false))
		made(t, step(api.StepUnlike), row(), []api.Value{other, deep}, flag(true))
		made(t, step(api.StepEqual), row(), []api.Value{deep, null()}, null())
		made(t, step(api.StepAdd), row(), []api.Value{deep, null()}, null())
		made(t, step(api.StepLess), row(), []api.Value{null(), deep}, null())
		for _, s := range unary[:2] {
			unmade(t, s, row(), []api.Value{deep}, api.ErrType)
		}
		for _, s := range append(pairing[:3:3], pairing[5:9]...) {
			unmade(t, s, row(), []api.Value{deep, deep}, api.ErrType)
			unmade(t, s, row(), []api.Value{deep, number(1)}, api.ErrType)
			unmade(t, s, row(), []api.Value{number(1), deep}, api.ErrType)
		}
		unmade(t, list(1), row(), []api.Value{deep}, api.ErrDepth)
		unmade(t, list(3), row(), []api.Value{null(), number(1), deep}, api.ErrDepth)
		unmade(t, structOf("a"), row(), []api.Value{deep}, api.ErrDepth)
		unmade(t, structOf("z", "a"), row(), []api.Value{number(1), deep}, api.ErrDepth)
		made(t, whole(1), deep, nil, number(1))
	}
	for i := range 6 {
		v := nested(i, number(1))
		made(t, list(2), row(), []api.Value{v, v}, all(v, v))
		made(t, structOf("x"), row(), []api.Value{v}, doc("x", v))
	}
}

// 14.1: lists and structs of as many as may be, of each value.
func TestStepMany(t *testing.T) {
	for n := range api.MaxParts + 1 {
		var l []api.Value
		want := doc()
		var falling []string
		for i := range n {
			l = append(l, number(int64(i)))
			falling = append(falling, fmt.Sprintf("n%02d", n-1-i))
			want.Fields = append(want.Fields, api.Field{Name: fmt.Sprintf("n%02d", i), Value: number(int64(n - 1 - i))})
		}
		made(t, list(n), row(), l, all(l...))
		made(t, structOf(falling...), row(), l, want)
		unmade(t, list(n), row(), append(l, null()), api.ErrSyntax)
		unmade(t, structOf(falling...), row(), append(l, null()), api.ErrSyntax)
		if n > 0 {
			unmade(t, list(n), row(), l[1:], api.ErrSyntax)
			unmade(t, structOf(falling...), row(), l[1:], api.ErrSyntax)
		}
	}
	long := all(times(64, word(xs(1024)))...)
	made(t, list(2), row(), []api.Value{long, long}, all(long, long))
}

// 14.1: too few values, and too many; AND and OR, of as many as they take, too.
func TestStepCounts(t *testing.T) {
	some := []api.Value{flag(true), flag(true), flag(true), flag(true), flag(true)}
	needs := map[int][]api.Step{0: leaves, 1: append(unary[:3:3], list(1), structOf("x")), 2: append(pairing[:9:9], list(2), structOf("x", "y")), 3: {list(3), structOf("x", "y", "z")}}
	for need, l := range needs {
		for _, s := range l {
			for n := range 6 {
				if n != need {
					unmade(t, s, row(), some[:n], api.ErrSyntax)
				}
			}
			unmade(t, s, row(), make([]api.Value, 65), api.ErrSyntax)
		}
	}
	for n := range 6 {
		unmade(t, step(api.StepAnd), row(), some[:n], api.ErrSyntax)
		unmade(t, step(api.StepOr), row(), some[:n], api.ErrSyntax)
	}
}

// 14.1: steps that are not right, with any values.
func TestStepWrong(t *testing.T) {
	for _, s := range wrongSteps() {
		for n := range 4 {
			unmade(t, s, row(), times(n, number(1)), api.ErrSyntax)
		}
		unmade(t, s, row(), make([]api.Value, 64), api.ErrSyntax)
		unmade(t, s, row(), make([]api.Value, 65), api.ErrSyntax)
	}
}

// 14.1: rows and values that are not right, and of several errors the first: the step's, the row's, the first value's, the second one's, what the step makes of them.
func TestStepErrors(t *testing.T) {
	for why, rows := range wrongValues() {
		for _, r := range rows {
			for _, s := range leaves {
				unmade(t, s, r, nil, why)
			}
			unmade(t, step(api.StepNot), r, []api.Value{flag(true)}, why)
			unmade(t, step(api.StepNot), row(), []api.Value{r}, why)
			unmade(t, step(api.StepIsNull), row(), []api.Value{r}, why)
			unmade(t, list(1), row(), []api.Value{r}, why)
			// The step's error is ahead of all others.
			unmade(t, step(api.StepAnd), r, []api.Value{r, r}, api.ErrSyntax)
			unmade(t, step(api.StepNot), r, []api.Value{r, r}, api.ErrSyntax)
			unmade(t, step(api.StepNone), r, []api.Value{r}, api.ErrSyntax)
			unmade(t, whole(-1), r, nil, api.ErrSyntax)
			for _, s := range append(pairing[:9:9], list(2), structOf("x", "y")) {
				unmade(t, s, r, []api.Value{word("x"), number(1)}, why)
				unmade(t, s, row(), []api.Value{r, null()}, why)
				unmade(t, s, row(), []api.Value{null(), r}, why)
				unmade(t, s, row(), []api.Value{word("x"), r}, why)
				unmade(t, s, row(), []api.Value{nested(6, null()), r}, why)
			}
			for no, others := range wrongValues() {
				for _, o := range others {
					unmade(t, step(api.StepNot), r, []api.Value{o}, why)
					unmade(t, step(api.StepEqual), r, []api.Value{null(), o}, why)
					unmade(t, step(api.StepEqual), r, []api.Value{o, r}, why)
					unmade(t, step(api.StepEqual), row(), []api.Value{r, o}, why)
					unmade(t, list(3), row(), []api.Value{null(), o, r}, no)
				}
			}
		}
	}
}

// 14.1: any steps, rows and values.
func TestStepAny(t *testing.T) {
	m := newMaker(141)
	met := map[api.Errno]int{}
	for i := range 20000 {
		s, r := m.takesSome(5), m.row()
		var l []api.Value
		for range takes(s) {
			l = append(l, m.value(2))
		}
		switch i % 9 {
		case 0:
			s = m.junk()
		case 1:
			r = m.wrong()
		case 2:
			l = append(l, m.value(1))
		case 3:
			if len(l) > 0 {
				l[m.Intn(len(l))] = m.wrong()
			}
		case 4:
			s, l = pick(m, pairing[:9]...), []api.Value{m.value(4), m.value(4)}
		case 5:
			s, l = pick(m, pairing[:9]...), []api.Value{number(m.Int63() - m.Int63()), number(m.Int63n(9) - 4)}
		}
		met[stepAsSaid(t, s, r, l)]++
		if t.Failed() {
			return
		}
	}
	if met[api.OK] < 1000 || met[api.ErrSyntax] < 1000 || met[api.ErrType] < 500 || met[api.ErrOver] < 100 {
		t.Errorf("met %v", met)
	}
}

// What a step makes is a right value.
func TestStepRight(t *testing.T) {
	m := newMaker(142)
	for range 3000 {
		l := []api.Value{m.value(5), m.value(6)}
		for _, s := range append(pairing[:9:9], list(2), structOf("y", "x")) {
			v, _ := vm.Step(s, row(), l)
			if why := value.Check(v); why != api.OK {
				t.Fatalf("%s of %s: %s", show(s), show(l), show(v))
			}
			stepAsSaid(t, s, row(), l)
		}
	}
}
