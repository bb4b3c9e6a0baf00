package parse_test

import (
	"fmt"
	"math/rand"
	"strings"

	"codicil/api"
)

// maker makes any statements: texts by the grammar, and right ones by hand.
type maker struct {
	*rand.Rand
	room int // how much more there may be of an expression
}

func pick[T any](m *maker, l ...T) T { return l[m.Intn(len(l))] }

func (m *maker) name() string {
	return pick(m, "a", "b", "c", "x_1", "Order1", "_", "t", xs(64))
}

// derived is a text of some symbol of the grammar.
func (m *maker) derived(symbol string) string {
	switch symbol {
	case "name":
		return m.name()
	case "number":
		return pick(m, "0", "7", "10", "9223372036854775807")
	case "text":
		return pick(m, "''", "'a'", "'it''s'", "'é'", "'SELECT'", "'('", "','")
	}
	ways := rules()[symbol]
	if ways == nil {
		if m.Intn(3) == 0 {
			return strings.ToLower(symbol)
		}
		return symbol
	}
	m.room--
	way := ways[m.Intn(len(ways))]
	// The first ones end soonest, as the grammar is laid out; of a primary those that stand alone.
	if m.room < 0 {
		way = ways[0]
	} else if symbol != "primary" && m.Intn(3) > 0 {
		way = ways[m.Intn(min(len(ways), 2))]
	}
	if symbol == "statement" {
		way = ways[m.Intn(len(ways))]
	}
	var out []string
	for _, s := range way {
		out = append(out, m.derived(s))
	}
	return strings.Join(out, pick(m, " ", " ", "\n", "\t "))
}

// right is any right expression of some steps at most, of depth at most so many.
func (m *maker) right(most, deep int, closed bool) []api.Step {
	if most < 3 || deep == 0 || m.Intn(6) == 0 {
		return []api.Step{m.leaf(closed)}
	}
	switch m.Intn(4) {
	case 0:
		kind := pick(m, api.StepNeg, api.StepNot, api.StepIsNull)
		return append(m.right(most-1, deep-1, closed), step(kind))
	case 1:
		n := pick(m, 0, 1, 2, 3, 5)
		n = min(n, most-1)
		var out []api.Step
		for i := range n {
			out = append(out, m.right((most-1-len(out))/(n-i), deep-1, closed)...)
		}
		if m.Intn(2) == 0 {
			return append(out, list(n))
		}
		return append(out, structOf(n, strings.Join(names(n), ",")))
	}
	first := m.right((most-1)/2, deep-1, closed)
	out := append(first, m.right(most-1-len(first), deep-1, closed)...)
	return append(out, step(api.StepAdd+api.StepKind(m.Intn(11))))
}

func (m *maker) leaf(closed bool) api.Step {
	switch n := m.Intn(7); {
	case n == 0:
		return whole(int64(m.Uint64()>>1) >> m.Intn(64))
	case n == 1:
		return text(pick(m, "", "a", "'", "it's", "é", "\n", xs(30), "SELECT", "\x00"))
	case n < 5 && !closed:
		return path(pick(m, "a", "a.b", "a.0", "a.0.b.9223372036854775807", "_", xs(64)+"."+xs(64), "x_1.y"))
	}
	return step(pick(m, api.StepNull, api.StepTrue, api.StepFalse))
}

// rightStmt is any right statement.
func (m *maker) rightStmt(most, deep int) api.Stmt {
	x := api.Stmt{Kind: api.StmtTable + api.StmtKind(m.Intn(6)), Table: m.name()}
	if x.Kind == api.StmtUpdate || x.Kind == api.StmtSelect && m.Intn(3) > 0 {
		for i := range 1 + m.Intn(4) {
			x.Items = append(x.Items, api.Item{Name: fmt.Sprint(m.name()[:1], i), Expr: m.right(most, deep, false)})
		}
	}
	if x.Kind == api.StmtInsert {
		x.Expr = m.right(most, deep, true)
	} else if x.Kind > api.StmtInsert && m.Intn(3) > 0 {
		x.Expr = m.right(most, deep, false)
	}
	if x.Kind == api.StmtIndex || x.Kind == api.StmtSelect && m.Intn(2) == 0 {
		x.Field = m.name()
	}
	if x.Kind == api.StmtSelect {
		x.History = m.Intn(2) == 0
		x.Desc = x.Field != "" && m.Intn(2) == 0
	}
	return x
}
