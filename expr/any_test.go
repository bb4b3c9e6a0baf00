package expr_test

import (
	"math/rand"

	"codicil/api"
)

// maker makes any expressions and rows.
type maker struct{ *rand.Rand }

func newMaker(seed int64) *maker { return &maker{rand.New(rand.NewSource(seed))} }

func pick[T any](m *maker, l ...T) T { return l[m.Intn(len(l))] }

// row is a struct with fields of all kinds, or another right value now and then.
func (m *maker) row() api.Value {
	if m.Intn(20) == 0 {
		return m.value(3)
	}
	v := doc()
	for _, name := range []string{"a", "b", "c", "d"} {
		if m.Intn(5) > 0 {
			v.Fields = append(v.Fields, api.Field{Name: name, Value: m.value(2)})
		}
	}
	return v
}

// value is any right one, nested at most so deep.
func (m *maker) value(deep int) api.Value {
	switch n := m.Intn(9); {
	case n == 0:
		return null()
	case n < 3:
		return flag(m.Intn(2) == 0)
	case n < 5:
		return number(pick(m, 0, 1, -1, 2, 1<<63-1, -1<<63, int64(m.Intn(9))))
	case n == 5:
		return word(pick(m, "", "a", "b", "é"))
	case n == 6:
		return blob(pick(m, "", "a", "\xff"))
	case deep == 0:
		return pick(m, all(), doc())
	case n == 7:
		v := all()
		for range m.Intn(3) {
			v.List = append(v.List, m.value(deep-1))
		}
		return v
	}
	v := doc()
	for _, name := range []string{"0", "a", "b"} {
		if m.Intn(2) == 0 {
			v.Fields = append(v.Fields, api.Field{Name: name, Value: m.value(deep - 1)})
		}
	}
	return v
}

func (m *maker) leaf() api.Step {
	switch n := m.Intn(10); {
	case n < 4:
		return path(pick(m, "a", "b", "c", "d", "e", "a.a", "a.0", "b.0.a", "b.1", "c.b.0", "d.0.0"))
	case n < 6:
		return whole(pick(m, 0, 1, 2, 1<<63-1, 1<<63-1, int64(m.Intn(9))))
	case n == 6:
		return text(pick(m, "", "a", "b", "é"))
	}
	return step(pick(m, api.StepNull, api.StepTrue, api.StepFalse))
}

// right is any right expression of some steps at most.
func (m *maker) right(most int) []api.Step {
	if most < 3 || m.Intn(6) == 0 {
		return steps(m.leaf())
	}
	switch n := m.Intn(9); {
	case n < 2:
		return append(m.right(most-1), pick(m, unary...))
	case n == 2:
		return m.takesMany(most)
	}
	first := m.right((most - 1) / 2)
	out := append(first, m.right(most-1-len(first))...)
	return append(out, pick(m, binary...))
}

// takesMany is a list or a struct, its names in any order.
func (m *maker) takesMany(most int) []api.Step {
	n := min(pick(m, 0, 1, 2, 2, 3, 5), most-1)
	var out []api.Step
	for i := range n {
		out = append(out, m.right((most-1-len(out))/(n-i))...)
	}
	if m.Intn(2) == 0 {
		return append(out, list(n))
	}
	l := names(n)
	m.Shuffle(n, func(i, j int) { l[i], l[j] = l[j], l[i] })
	return append(out, structOf(l...))
}

// logic is any right expression whose parts are null, bools and comparisons: one that has few errors.
func (m *maker) logic(most int) []api.Step {
	switch n := m.Intn(8); {
	case most < 3 || n == 0:
		return steps(step(pick(m, api.StepNull, api.StepTrue, api.StepFalse)))
	case n == 1:
		return append(m.logic(most-1), step(api.StepNot))
	case n == 2:
		return append(m.logic(most-1), step(api.StepIsNull))
	case n == 3:
		return steps(path(pick(m, "a", "b", "c")), whole(int64(m.Intn(3))), pick(m, binary[3:9]...))
	}
	first := m.logic((most - 1) / 2)
	out := append(first, m.logic(most-1-len(first))...)
	return append(out, step(pick(m, api.StepAnd, api.StepOr)))
}

// sums is any right expression of numbers, some of them great, and some null.
func (m *maker) sums(most int) []api.Step {
	switch n := m.Intn(8); {
	case most < 3 || n == 0:
		return steps(pick(m, whole(0), whole(1), whole(3), whole(1<<31), whole(1<<62), whole(1<<63-1), path("e"), step(api.StepNull)))
	case n == 1:
		return append(m.sums(most-1), step(api.StepNeg))
	}
	first := m.sums((most - 1) / 2)
	out := append(first, m.sums(most-1-len(first))...)
	return append(out, pick(m, binary[:3]...))
}

// junk is any steps, few of which are right.
func (m *maker) junk() []api.Step {
	if m.Intn(2) == 0 {
		l := m.right(1 + m.Intn(40))
		i := m.Intn(len(l))
		switch m.Intn(5) {
		case 0:
			return append(l[:i], l[i+1:]...)
		case 1:
			return append(l, l[i])
		case 2:
			l[i].N = pick[int64](m, -1, 1, 2, 65, -1<<63, 1<<63-1)
		case 3:
			l[i].Text = pick(m, "", "a", "a,b", ",", ".", "a.", "\xff", xs(1025), "select")
		case 4:
			l[i].Kind = api.StepKind(m.Intn(256))
		}
		return l
	}
	var l []api.Step
	for range m.Intn(6) {
		l = append(l, api.Step{Kind: api.StepKind(m.Intn(26)), N: pick[int64](m, 0, 0, 1, 2, -1), Text: pick(m, "", "", "a", "a,b", "\xff")})
	}
	return l
}

// wrong is a value that may not be right.
func (m *maker) wrong() api.Value {
	v := m.value(2)
	switch m.Intn(7) {
	case 0:
		v.Kind = api.Kind(m.Intn(256))
	case 1:
		v.B, v.N, v.S = m.Intn(2) == 0, int64(m.Intn(2)), pick(m, "", "x", "\xff")
	case 2:
		v = word(pick(m, "\xff", xs(1025)))
	case 3:
		v = nested(m.Intn(9), v)
	case 4:
		v = doc("b", v, pick(m, "a", "b", "c", "", "\xff"), v)
	case 5:
		v = all(make([]api.Value, 63+m.Intn(3))...)
	}
	return v
}
