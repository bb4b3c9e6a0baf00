package vm_test

import (
	"math/rand"

	"codicil/api"
	"codicil/parse"
)

// maker makes any expressions, programs and rows.
type maker struct{ *rand.Rand }

func newMaker(seed int64) *maker { return &maker{rand.New(rand.NewSource(seed))} }

func pick[T any](m *maker, l ...T) T { return l[m.Intn(len(l))] }

// row is a struct with fields of all kinds, or another right value now and then.
func (m *maker) row() api.Value {
	if m.Intn(20) == 0 {
		return m.value(3)
	}
	v := doc()
	for _, name := range []string{"a", "b", "c", "d"} {
		if m.Intn(5) > 0 {
			v.Fields = append(v.Fields, api.Field{Name: name, Value: m.value(2)})
		}
	}
	return v
}

// value is any right one, nested at most so deep.
func (m *maker) value(deep int) api.Value {
	switch n := m.Intn(9); {
	case n == 0:
		return null()
	case n < 3:
		return flag(m.Intn(2) == 0)
	case n < 5:
		return number(pick(m, 0, 1, -1, 2, 1<<63-1, -1<<63, int64(m.Intn(9))))
	case n == 5:
		return word(pick(m, "", "a", "b", "é"))
	case n == 6:
		return blob(pick(m, "", "a", "\xff"))
	case deep == 0:
		return pick(m, all(), doc())
	case n == 7:
		v := all()
		for range m.Intn(3) {
			v.List = append(v.List, m.value(deep-1))
		}
		return v
	}
	v := doc()
	for _, name := range []string{"0", "a", "b"} {
		if m.Intn(2) == 0 {
			v.Fields = append(v.Fields, api.Field{Name: name, Value: m.value(deep - 1)})
		}
	}
	return v
}

func (m *maker) leaf() api.Step {
	switch n := m.Intn(10); {
	case n < 4:
		return path(pick(m, "a", "b", "c", "d", "e", "a.a", "a.0", "b.0.a", "b.1", "c.b.0", "d.0.0"))
	case n == 4:
		return whole(pick(m, 0, 1, 2, 1<<63-1, int64(m.Intn(9))))
	case n == 5:
		return text(pick(m, "", "a", "b", "é"))
	}
	return step(pick(m, api.StepNull, api.StepTrue, api.StepFalse))
}

// expr is any right expression of some steps at most.
func (m *maker) expr(most int) []api.Step {
	if most < 3 || m.Intn(6) == 0 {
		return steps(m.leaf())
	}
	switch n := m.Intn(9); {
	case n < 2:
		return append(m.expr(most-1), pick(m, unary...))
	case n == 2:
		return m.takesMany(most)
	}
	first := m.expr((most - 1) / 2)
	out := append(first, m.expr(most-1-len(first))...)
	return append(out, pick(m, pairing...))
}

// takesMany is a list or a struct, its names in any order.
func (m *maker) takesMany(most int) []api.Step {
	n := min(pick(m, 0, 1, 2, 2, 3, 5), most-1)
	var out []api.Step
	for i := range n {
		out = append(out, m.expr((most-1-len(out))/(n-i))...)
	}
	if m.Intn(2) == 0 {
		return append(out, list(n))
	}
	l := names(n)
	m.Shuffle(n, func(i, j int) { l[i], l[j] = l[j], l[i] })
	return append(out, structOf(l...))
}

// logic is any right expression whose parts are null, bools and comparisons: one that has few errors.
func (m *maker) logic(most int) []api.Step {
	switch n := m.Intn(8); {
	case most < 3 || n == 0:
		return steps(step(pick(m, api.StepNull, api.StepTrue, api.StepFalse)))
	case n == 1:
		return append(m.logic(most-1), step(api.StepNot))
	case n == 2:
		return append(m.logic(most-1), step(api.StepIsNull))
	case n == 3:
		return steps(path(pick(m, "a", "b", "c")), whole(int64(m.Intn(3))), pick(m, pairing[3:9]...))
	}
	first := m.logic((most - 1) / 2)
	out := append(first, m.logic(most-1-len(first))...)
	return append(out, step(pick(m, api.StepAnd, api.StepOr)))
}

// takesSome is a step that takes no more than so many values, and has an error seldom.
func (m *maker) takesSome(most int) api.Step {
	switch n := m.Intn(9); {
	case n == 0 && most >= 2:
		return pick(m, pairing[3:9]...)
	case n < 3 && most >= 2:
		return step(pick(m, api.StepEqual, api.StepUnlike))
	case n == 3 && most >= 1:
		return pick(m, unary...)
	case n == 4 && most >= 1:
		return step(api.StepIsNull)
	case n == 5 && m.Intn(3) == 0:
		n := m.Intn(min(most, 5) + 1)
		return pick(m, list(n), structOf(names(n)...))
	}
	return pick(m, m.leaf(), step(pick(m, api.StepNull, api.StepTrue, api.StepFalse)))
}

// program is any right one, of some instructions at most, more than one: most are no expression's.
func (m *maker) program(most int) []api.Instr {
	var p []api.Instr
	heights := []int{0}
	put := func(in api.Instr, height int) {
		p = append(p, in)
		heights = append(heights, height)
	}
	for range 1 + m.Intn(most-1) {
		h := heights[len(p)]
		switch n := m.Intn(9); {
		case n == 0 && h >= 1:
			put(flagOp, h)
		case n == 1 && h >= 2:
			put(joinOp, h-1)
		case n == 2 && h >= 1:
			put(and(0), h-1)
		case n == 3 && h >= 1:
			put(or(0), h)
		default:
			s := m.takesSome(h)
			if h > 60 {
				s = list(h)
			}
			many, _ := parse.Takes(s)
			put(do(s), h-many+1)
		}
	}
	if h := heights[len(p)]; h != 1 {
		put(do(list(h)), 1)
	}
	m.aim(p, heights)
	return p
}

// aim lets each jump go to a place that is as high as its own; one that finds none is no jump any more. (The end is as high as an AND whose value is the only one.)
func (m *maker) aim(p []api.Instr, heights []int) {
	for at, in := range p {
		if in.Op != api.OpAnd && in.Op != api.OpOr {
			continue
		}
		var places []int
		for to := at + 1; to < len(heights); to++ {
			if heights[to] == heights[at] {
				places = append(places, to)
			}
		}
		switch {
		case len(places) > 0:
			p[at].To = pick(m, places...)
		case in.Op == api.OpOr:
			p[at] = flagOp
		default:
			p[at] = joinOp
		}
	}
}

// wrong is a value that may not be right.
func (m *maker) wrong() api.Value {
	v := m.value(2)
	switch m.Intn(7) {
	case 0:
		v.Kind = api.Kind(m.Intn(256))
	case 1:
		v.B, v.N, v.S = m.Intn(2) == 0, int64(m.Intn(2)), pick(m, "", "x", "\xff")
	case 2:
		v = word(pick(m, "\xff", xs(1025)))
	case 3:
		v = nested(m.Intn(9), v)
	case 4:
		v = doc("b", v, pick(m, "a", "b", "c", "", "\xff"), v)
	case 5:
		v = all(make([]api.Value, 63+m.Intn(3))...)
	}
	return v
}

// junk is a step that may not be right.
func (m *maker) junk() api.Step {
	return api.Step{Kind: api.StepKind(m.Intn(26)), N: pick[int64](m, 0, 0, 1, 2, -1), Text: pick(m, "", "", "a", "a,b", "\xff")}
}
