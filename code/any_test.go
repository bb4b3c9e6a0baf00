package code_test

import (
	"math/rand"

	"codicil/api"
	"codicil/parse"
)

// maker makes any expressions, programs and texts.
type maker struct{ *rand.Rand }

func newMaker(seed int64) *maker { return &maker{rand.New(rand.NewSource(seed))} }

func pick[T any](m *maker, l ...T) T { return l[m.Intn(len(l))] }

func (m *maker) leaf() api.Step {
	switch n := m.Intn(10); {
	case n < 4:
		return path(pick(m, "a", "b", "a.a", "b.0.a"))
	case n < 6:
		return whole(pick(m, 0, 1, 127, 128, 1<<63-1, m.Int63()))
	case n == 6:
		return text(pick(m, "", "a", "it's", "é", "\x00", xs(127), xs(128)))
	}
	return step(pick(m, api.StepNull, api.StepTrue, api.StepFalse))
}

// expr is any right expression of some steps at most.
func (m *maker) expr(most int) []api.Step {
	if most < 3 || m.Intn(9) == 0 {
		return steps(m.leaf())
	}
	switch n := m.Intn(9); {
	case n < 2:
		return append(m.expr(most-1), pick(m, unary...))
	case n == 2:
		return m.takesMany(most)
	}
	first := m.expr(1 + m.Intn(most-2))
	out := append(first, m.expr(most-1-len(first))...)
	return append(out, pick(m, pick(m, pairing...), step(api.StepAnd), step(api.StepOr)))
}

// takesMany is a list or a struct.
func (m *maker) takesMany(most int) []api.Step {
	n := min(pick(m, 0, 1, 2, 2, 3, 5), most-1)
	var out []api.Step
	for i := range n {
		out = append(out, m.expr((most-1-len(out))/(n-i))...)
	}
	return append(out, pick(m, list(n), structOf(names(n, 5)...)))
}

// takesSome is a step that takes no more than so many values.
func (m *maker) takesSome(most int) api.Step {
	switch n := m.Intn(7); {
	case n < 2 && most >= 2:
		return pick(m, pairing[:9]...)
	case n < 4 && most >= 1:
		return pick(m, unary...)
	case n == 4:
		n := m.Intn(min(most, 5) + 1)
		return pick(m, list(n), structOf(names(n, 4)...))
	}
	return m.leaf()
}

// program is any right one, of some instructions at most, more than one: most are no expression's.
func (m *maker) program(most int) []api.Instr {
	var p []api.Instr
	heights := []int{0}
	put := func(in api.Instr, height int) {
		p = append(p, in)
		heights = append(heights, height)
	}
	for range 1 + m.Intn(most-1) {
		h := heights[len(p)]
		switch n := m.Intn(9); {
		case n == 0 && h >= 1:
			put(flag, h)
		case n == 1 && h >= 2:
			put(join, h-1)
		case n == 2 && h >= 1:
			put(and(0), h-1)
		case n == 3 && h >= 1:
			put(or(0), h)
		default:
			s := m.takesSome(h)
			if h > 60 {
				s = list(h)
			}
			many, _ := parse.Takes(s)
			put(do(s), h-many+1)
		}
	}
	if h := heights[len(p)]; h != 1 {
		put(do(list(h)), 1)
	}
	m.aim(p, heights)
	return p
}

// aim lets each jump go to a place that is as high as its own; one that finds none is no jump any more. (The end is as high as an AND whose value is the only one.)
func (m *maker) aim(p []api.Instr, heights []int) {
	for at, in := range p {
		if in.Op != api.OpAnd && in.Op != api.OpOr {
			continue
		}
		var places []int
		for to := at + 1; to < len(heights); to++ {
			if heights[to] == heights[at] {
				places = append(places, to)
			}
		}
		switch {
		case len(places) > 0:
			p[at].To = pick(m, places...)
		case in.Op == api.OpOr:
			p[at] = flag
		default:
			p[at] = join
		}
	}
}

// spoil is a program that may not be right any more.
func (m *maker) spoil(p []api.Instr) []api.Instr {
	i, j := m.Intn(len(p)), m.Intn(len(p))
	switch m.Intn(8) {
	case 0:
		return append(p[:i], p[i+1:]...)
	case 1:
		return append(p, p[i])
	case 2:
		p[i], p[j] = p[j], p[i]
	case 3:
		p[i].Op = api.Op(m.Intn(8))
	case 4:
		p[i].To = pick(m, -1, 0, 1, i, i+1, i+2, len(p), len(p)+1, m.Intn(len(p)))
	case 5:
		p[i].Step = pick(m, api.Step{}, m.takesSome(5), step(api.StepAnd), whole(-1))
	case 6:
		p[i].Step.Kind = api.StepKind(m.Intn(26))
	case 7:
		p[i] = pick(m, null, not, same, flag, join, and(i+2), or(i+2))
	}
	return p
}

// bytes is a text that may be no program's any more.
func (m *maker) bytes(s string) string {
	i := m.Intn(len(s))
	switch m.Intn(4) {
	case 0:
		return s[:i] + s[i+1:]
	case 1:
		return s[:i] + string([]byte{byte(m.Intn(256))}) + s[i:]
	case 2:
		return s[:i] + string([]byte{byte(m.Intn(8))}) + s[i+1:]
	}
	return s[:i] + string([]byte{s[i] ^ 1<<m.Intn(8)}) + s[i+1:]
}
