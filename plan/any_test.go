package plan_test

import (
	"math/rand"

	"codicil/api"
)

// maker makes any statements, states and plans.
type maker struct{ *rand.Rand }

func newMaker(seed int64) *maker { return &maker{rand.New(rand.NewSource(seed))} }

func pick[T any](m *maker, l ...T) T { return l[m.Intn(len(l))] }

func (m *maker) key() api.Value {
	return pick(m, null(), number(1), number(1), number(2), number(-1), word("1"), word("x"), flag(true), flag(false), all(number(1)), doc("a", number(1)), api.Value{Kind: api.KindBlob, S: "1"})
}

func (m *maker) doc() api.Value {
	v := doc()
	for _, name := range []string{"a", "b", "c"} {
		if m.Intn(5) > 0 {
			v.Fields = append(v.Fields, api.Field{Name: name, Value: m.key()})
		}
	}
	return v
}

// state is a right one, of which a table may be one of t, u, v.
func (m *maker) state() api.State {
	s := api.State{Seq: uint64(1 + m.Intn(9))}
	for _, name := range []string{"t", "u", "v"} {
		if m.Intn(6) > 0 {
			x := api.Table{Name: name}
			for _, field := range []string{"c", "a", "b", "a.b"} {
				if m.Intn(3) > 0 {
					x.Indexes = append(x.Indexes, field)
				}
			}
			s.Tables = append(s.Tables, x)
		}
	}
	for range m.Intn(20) {
		s.Last += uint64(1 + m.Intn(3))
		if len(s.Tables) == 0 {
			continue
		}
		d := api.Doc{Id: s.Last}
		seq := 1 + m.Intn(int(s.Seq))
		for range 1 + m.Intn(3) {
			d.Versions = append(d.Versions, api.Version{Seq: uint64(seq), Value: m.doc()})
			seq += m.Intn(int(s.Seq) - seq + 1)
		}
		if m.Intn(4) == 0 {
			d.Versions = append(d.Versions, api.Version{Seq: uint64(seq), Gone: true})
		}
		x := &s.Tables[m.Intn(len(s.Tables))]
		x.Docs = append(x.Docs, d)
	}
	return s
}

func (m *maker) constant() []api.Step {
	return pick(m, steps(whole(1)), steps(whole(1)), steps(whole(2)), steps(whole(1), step(api.StepNeg)), steps(text("1")), steps(text("x")), steps(step(api.StepTrue)), steps(step(api.StepFalse)))
}

func (m *maker) part() []api.Step {
	switch m.Intn(9) {
	case 0, 1, 2:
		return steps(path(pick(m, "a", "a", "b", "c", "d", "a.b", "a.0")))
	case 3:
		return steps(whole(1), step(api.StepNeg))
	case 4:
		return steps(pick(m, step(api.StepNull), step(api.StepTrue), step(api.StepFalse)))
	case 5:
		return steps(text(pick(m, "1", "x")))
	case 6:
		return steps(pick(m, path("a"), whole(1)), whole(1), pick(m, step(api.StepAdd), step(api.StepEqual)))
	}
	return steps(whole(int64(1 + m.Intn(2))))
}

// condition is any right expression, often one that asks for a key.
func (m *maker) condition(most int) []api.Step {
	if most == 0 && m.Intn(2) == 0 {
		field, key := steps(path(pick(m, "a", "b", "c"))), m.constant()
		if m.Intn(2) == 0 {
			field, key = key, field
		}
		return append(append(field, key...), step(api.StepEqual))
	}
	if most == 0 || m.Intn(5) == 0 {
		out := append(m.part(), m.part()...)
		return append(out, step(pick(m, api.StepEqual, api.StepEqual, api.StepEqual, api.StepUnlike, api.StepLess, api.StepMost)))
	}
	if m.Intn(8) == 0 {
		return append(m.condition(most-1), step(pick(m, api.StepNot, api.StepIsNull)))
	}
	out := append(m.condition(most-1), m.condition(most-1)...)
	return append(out, step(pick(m, api.StepAnd, api.StepAnd, api.StepAnd, api.StepOr)))
}

// stmt is any right statement.
func (m *maker) stmt() api.Stmt {
	x := api.Stmt{Kind: pick(m, api.StmtTable, api.StmtIndex, api.StmtInsert, api.StmtUpdate, api.StmtDelete, api.StmtSelect, api.StmtSelect), Table: pick(m, "t", "t", "u", "v", "new")}
	if x.Kind >= api.StmtUpdate && m.Intn(6) > 0 {
		x.Expr = m.condition(m.Intn(4))
	}
	switch x.Kind {
	case api.StmtInsert:
		x.Expr = steps(text("words"), api.Step{Kind: api.StepStruct, N: 1, Text: "name"})
	case api.StmtUpdate, api.StmtSelect:
		for i := range 1 + m.Intn(3) {
			x.Items = append(x.Items, api.Item{Name: []string{"n", "o", "p"}[i], Expr: m.condition(1)})
		}
	}
	if x.Kind == api.StmtIndex || x.Kind == api.StmtSelect && m.Intn(2) == 0 {
		x.Field = pick(m, "a", "b", "c", "d")
	}
	if x.Kind == api.StmtSelect {
		x.History = m.Intn(4) == 0
		x.Desc = x.Field != "" && m.Intn(2) == 0
	}
	return x
}

// spoilStmt is a statement that may not be right any more.
func (m *maker) spoilStmt(x api.Stmt) api.Stmt {
	switch m.Intn(7) {
	case 0:
		x.Kind = api.StmtKind(m.Intn(10))
	case 1:
		x.Table = pick(m, "", "select", "\xff", "a.b")
	case 2:
		x.Field = pick(m, "", "a", "select")
	case 3:
		x.Desc, x.History = true, true
	case 4:
		x.Items = append(x.Items, x.Items...)
	case 5:
		x.Expr = append(x.Expr, pick(m, path("a"), step(api.StepAnd), api.Step{}))
	case 6:
		x.Items = nil
	}
	return x
}

// spoilState is a state that may not be right any more.
func (m *maker) spoilState(s api.State) api.State {
	switch m.Intn(5) {
	case 0:
		s.Seq = pick[uint64](m, 0, 1<<62, 1<<62+1, 1<<64-1)
	case 1:
		s.Last = pick[uint64](m, 0, 1<<62, 1<<62+1, 1<<64-1)
	case 2:
		s.Tables = append(s.Tables, s.Tables...)
	case 3:
		s.Tables = append(s.Tables, api.Table{Name: pick(m, "", "\xff", "new", xs(1025))})
	case 4:
		s.Tables = append(s.Tables, api.Table{Name: "more", Indexes: pick(m, []string{"a", "a"}, []string{""}, []string{"a"})})
	}
	return s
}

// spoilPlan is a plan that may be none that Make answers.
func (m *maker) spoilPlan(p api.Plan) api.Plan {
	switch m.Intn(5) {
	case 0:
		p.HasKey = !p.HasKey
	case 1:
		p.Index = pick(m, "", "a", "b", "d")
	case 2:
		p.Key = m.key()
	case 3:
		p.Key.N++
	case 4:
		p.HasKey, p.Index, p.Key = false, "", null()
	}
	return p
}
