package vm

import "codicil/api"

func flag(b bool) api.Value { return api.Value{Kind: api.KindBool, B: b} }

func isNull(v api.Value) bool { return v.Kind == api.KindNull }

func isTrue(v api.Value) bool { return v.Kind == api.KindBool && v.B }

// isFlag tells whether a value is one that logic knows: null or a bool.
func isFlag(v api.Value) bool { return isNull(v) || v.Kind == api.KindBool }

// machine is a run of a right program, which has always as many values as its instructions need.
type machine struct {
	row    api.Value
	values stack[api.Value]
	next   int // the place of the instruction that is next
	fuel   int
}

// deeds are what instructions do, by their Op.
func deeds() map[api.Op]func(*machine, api.Instr) api.Errno {
	return map[api.Op]func(*machine, api.Instr) api.Errno{
		api.OpStep: (*machine).step,
		api.OpAnd:  (*machine).and,
		api.OpFlag: (*machine).check,
		api.OpOr:   (*machine).or,
		api.OpJoin: (*machine).join,
	}
}

// run does instructions till the end of a program, or an error.
func (m *machine) run(p []api.Instr) api.Errno {
	known := deeds()
	for m.next < len(p) {
		if m.fuel == 0 {
			return api.ErrFuel
		}
		m.fuel--
		in := p[m.next]
		m.next++
		if why := known[in.Op](m, in); why != api.OK {
			return why
		}
	}
	return api.OK
}

func (m *machine) step(in api.Instr) api.Errno {
	v, why := made(in.Step, m.row, m.values.take(takes(in.Step)))
	m.values.put(v)
	return why
}

func (m *machine) and(in api.Instr) api.Errno {
	last := m.values.last()
	switch {
	case !isFlag(last):
		return api.ErrType
	case isTrue(last):
		m.values.take(1)
	default:
		m.next = in.To
	}
	return api.OK
}

func (m *machine) check(api.Instr) api.Errno {
	if !isFlag(m.values.last()) {
		return api.ErrType
	}
	return api.OK
}

func (m *machine) or(in api.Instr) api.Errno {
	last := m.values.last()
	switch {
	case !isFlag(last):
		return api.ErrType
	case isTrue(last):
		m.next = in.To
	}
	return api.OK
}

// join does not ask whether the first one is true: only a program that was written by hand comes here with that.
func (m *machine) join(api.Instr) api.Errno {
	two := m.values.take(2)
	first, second := two[0], two[1]
	if !isFlag(first) || !isFlag(second) {
		return api.ErrType
	}
	switch {
	case isTrue(second):
		m.values.put(flag(true))
	case isNull(first) || isNull(second):
		m.values.put(api.Value{})
	default:
		m.values.put(flag(false))
	}
	return api.OK
}
