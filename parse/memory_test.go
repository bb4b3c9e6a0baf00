package parse_test

import (
	"math/rand"
	"testing"

	"codicil/api"
	"codicil/parse"
)

// 10.4: what Parse answers is new memory, in all its lists and texts, and nothing of the text is kept.
func TestParseNewMemory(t *testing.T) {
	for s := range statements() {
		given, change := lent(s + " ")
		x := fine(t, given)
		y := fine(t, given)
		apart(t, x, given, y)
		want := twin(x)
		wantText, _ := parse.Print(x)
		change()
		if text, _ := parse.Print(x); !sameStmts(x, want) || text != wantText {
			t.Errorf("kept: %s", show(x))
		}
	}
	m := &maker{Rand: rand.New(rand.NewSource(104))}
	for range 1000 {
		m.room = m.Intn(60)
		s := m.derived("statement")
		x, _, _ := parse.Parse(s)
		y, _, _ := parse.Parse(s)
		apart(t, x, s, y)
		if !sameStmts(x, y) {
			t.Fatalf("Parse(%s): %s, then %s", show(s), show(x), show(y))
		}
	}
}

// 10.4: texts of steps and statements are new memory, and nothing that is handed in is changed or kept.
func TestTextsNewMemory(t *testing.T) {
	m := &maker{Rand: rand.New(rand.NewSource(105))}
	for range 1000 {
		x := m.rightStmt(30, 10)
		want := twin(x)
		s, _ := parse.Print(x)
		again, _ := parse.Print(x)
		apart(t, []string{s, again}, x)
		l := m.right(30, 10, false)
		before := append([]api.Step{}, l...)
		p, _ := parse.Show(l)
		q, _ := parse.Show(l)
		apart(t, []string{p, q}, l)
		parse.Check(x)
		parse.Right(l)
		parse.Closed(l)
		parse.Takes(l[0])
		if !sameStmts(x, want) || s != again || p != q || !sameStmts(api.Stmt{Expr: l}, api.Stmt{Expr: before}) {
			t.Fatalf("changed: %s, %s", show(x), show(l))
		}
	}
	for _, l := range [][]api.Step{{step(api.StepNull)}, {step(api.StepTrue)}, {step(api.StepFalse)}, {whole(7)}, {text("a")}, {path("a.b")}, {list(0)}, {structOf(0, "")}} {
		p, _ := parse.Show(l)
		q, _ := parse.Show(l)
		apart(t, []string{p, q}, l)
	}
	name, change := lent("abc")
	x := api.Stmt{Kind: api.StmtSelect, Table: name, Field: name, Items: []api.Item{{Name: name, Expr: steps(path(name))}}, Expr: steps(path(name))}
	s, _ := parse.Print(x)
	p, _ := parse.Show(x.Expr)
	change()
	if s != "SELECT abc AS abc FROM abc WHERE abc ORDER BY abc" || p != "abc" {
		t.Errorf("kept: %q, %q", s, p)
	}
}

// 10.4, P1: lists with room behind them are not written into, and a longer one's beginning is a list.
func TestRoomBehind(t *testing.T) {
	l := make([]api.Step, 3, 10)
	l[0], l[1], l[2] = path("a"), whole(1), step(api.StepAdd)
	room := l[:10]
	room[3] = text("kept")
	if s, why := parse.Show(l); s != "(a + 1)" || why != api.OK {
		t.Errorf("Show: %q, error %d", s, why)
	}
	if s, why := parse.Print(api.Stmt{Kind: api.StmtDelete, Table: "t", Expr: l}); s != "DELETE FROM t WHERE (a + 1)" || why != api.OK {
		t.Errorf("Print: %q, error %d", s, why)
	}
	if room[3] != text("kept") || room[0] != path("a") || room[2] != step(api.StepAdd) {
		t.Errorf("written into: %s", show(room))
	}
}
