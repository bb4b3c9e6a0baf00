package plan_test

import (
	"math/rand"
	"runtime"
	"slices"
	"testing"

	"codicil/api"
	"codicil/expr"
	"codicil/plan"
	"codicil/table"
	"codicil/value"
)

// 12.1, 12.2: any statements, states and plans.
func TestAsSaid(t *testing.T) {
	m := newMaker(121)
	errors, keys := map[api.Errno]int{}, 0
	for i := range 20000 {
		x, s := m.stmt(), m.state()
		if i%10 == 1 || i%10 == 3 {
			x = m.spoilStmt(x)
		}
		if i%10 == 2 || i%10 == 3 {
			s = m.spoilState(s)
		}
		want, why := saidMake(x, s)
		p, no := plan.Make(x, s)
		if no != why || !samePlan(p, want) {
			t.Fatalf("Make(%s, %s): %s, error %d, not %s, error %d", show(x), show(s), show(p), no, show(want), why)
		}
		if p.HasKey {
			keys++
		}
		p.Stmt = x
		if i%3 == 0 {
			p = m.spoilPlan(p)
		}
		rows, why := saidRows(p, s)
		l, no := plan.Rows(p, s)
		if no != why || !sameRows(l, rows) {
			t.Fatalf("Rows(%s, %s): %s, error %d, not %s, error %d", show(p), show(s), show(l), no, show(rows), why)
		}
		errors[why]++
		if f := plan.First(x.Expr); !slices.Equal(f, saidFirst(x.Expr)) {
			t.Fatalf("First(%s): %s", show(x.Expr), show(f))
		}
	}
	for _, why := range []api.Errno{api.OK, api.ErrSyntax, api.ErrState, api.ErrTwice, api.ErrName, api.ErrType} {
		if errors[why] < 100 || keys < 500 {
			t.Errorf("met %v, %d keys", errors, keys)
		}
	}
}

// 12.4, 12.5, P6: none is missed, and what is left out neither holds nor has an error; Rows are some of the current documents, by Ids.
func TestNoneMissed(t *testing.T) {
	m := newMaker(124)
	left, held := 0, 0
	for range 20000 {
		x, s := m.stmt(), m.state()
		p, why := plan.Make(x, s)
		if why != api.OK || x.Kind < api.StmtUpdate || x.History {
			continue
		}
		rows, why := plan.Rows(p, s)
		current, _ := table.Current(s, x.Table)
		if why != api.OK {
			t.Fatalf("Rows(%s): error %d", show(p), why)
		}
		next := 0
		for _, r := range current {
			if next < len(rows) && sameRows(rows[next:next+1], []api.Row{r}) {
				next++
				if is, _ := expr.Holds(x.Expr, r.Value); is {
					held++
				}
				continue
			}
			left++
			if is, why := expr.Holds(x.Expr, r.Value); is || why != api.OK {
				t.Fatalf("%s left out %s: %v, error %d", show(p), show(r), is, why)
			}
		}
		if next != len(rows) {
			t.Fatalf("%s: %s are not some of %s", show(p), show(rows), show(current))
		}
	}
	if left < 1000 || held < 1000 {
		t.Errorf("%d left out, %d held", left, held)
	}
}

// 12.4, 12.5: with an index and without, what is held is the same.
func TestIndexOrNot(t *testing.T) {
	m := newMaker(125)
	for range 3000 {
		x, s := m.stmt(), m.state()
		bare := s
		bare.Tables = slices.Clone(s.Tables)
		for i := range bare.Tables {
			bare.Tables[i].Indexes = nil
		}
		if x.Kind < api.StmtUpdate || tableAt(s, x.Table) < 0 {
			continue
		}
		var answers [2][]uint64
		var errors [2]api.Errno
		for i, s := range []api.State{s, bare} {
			p, why := plan.Make(x, s)
			if why != api.OK || i == 1 && p.HasKey {
				t.Fatalf("Make(%s): %s, error %d", show(x), show(p), why)
			}
			rows, _ := plan.Rows(p, s)
			for _, r := range rows {
				is, why := expr.Holds(x.Expr, r.Value)
				if why != api.OK {
					errors[i] = why
					break
				}
				if is {
					answers[i] = append(answers[i], r.Doc)
				}
			}
		}
		if !slices.Equal(answers[0], answers[1]) || errors[0] != errors[1] {
			t.Fatalf("%s over %s: %v, errors %v", show(x), show(s), answers, errors)
		}
	}
}

// 12.3: answers are new memory, in all their lists and texts.
func TestNewMemory(t *testing.T) {
	m := newMaker(123)
	for range 2000 {
		x, s := m.stmt(), m.state()
		p, _ := plan.Make(x, s)
		q, _ := plan.Make(x, s)
		apart(t, p, x, s, q)
		rows, _ := plan.Rows(p, s)
		again, _ := plan.Rows(p, s)
		apart(t, rows, p, s, again)
		l := m.condition(3)
		f, g := plan.First(l), plan.First(l)
		apart(t, [][]api.Step{f, g}, l)
		if !samePlan(p, q) || !sameRows(rows, again) || !slices.Equal(f, g) {
			t.Fatalf("%s, then %s; %s, then %s", show(p), show(q), show(rows), show(again))
		}
	}
	for _, s := range []string{"DELETE FROM t WHERE a = 'word'", "SELECT a AS name, 'word' AS other FROM t WHERE 'word' = b AND b = 'word' ORDER BY name", "UPDATE t SET name = 'word'", "INSERT INTO t {name: 'word'}", "CREATE TABLE name", "CREATE INDEX ON t (name)", "SELECT * FROM HISTORY(t)"} {
		x, state := read(t, s), small()
		p := made(t, x, state)
		apart(t, p, x, state)
		rows, _ := plan.Rows(p, state)
		apart(t, rows, p, state)
	}
	f := plan.First(steps(text("word")))
	apart(t, f, steps(text("word")))
}

// 12.3: nothing of what is handed in is kept.
func TestKeepsNothing(t *testing.T) {
	field, spoilField := lent("a")
	words, spoilWords := lent("word")
	name, spoilName := lent("t")
	x := api.Stmt{Kind: api.StmtSelect, Table: name, Field: field, Items: []api.Item{{Name: field, Expr: steps(text(words))}}, Expr: steps(path(field), text(words), step(api.StepEqual))}
	s := small()
	s.Tables[0].Docs[0].Versions[0].Value.Fields[0].Value = word(words)
	s.Tables[0].Indexes[0] = field
	p := made(t, x, s)
	rows, why := plan.Rows(p, s)
	f := plan.First(x.Expr)
	spoilField()
	spoilWords()
	spoilName()
	x.Expr[0], x.Items[0].Expr[0] = whole(1), whole(1)
	x.Items[0].Name = "other"
	s.Tables[0].Docs[0].Versions[0].Value.Fields[1].Value = null()
	want := read(t, "SELECT 'word' AS a FROM t WHERE a = 'word' ORDER BY a")
	if !samePlan(p, api.Plan{Stmt: want, HasKey: true, Index: "a", Key: word("word")}) || !slices.Equal(f, want.Expr) {
		t.Errorf("kept: %s, %s", show(p), show(f))
	}
	if why != api.OK || !sameRows(rows, []api.Row{{Doc: 2, Seq: 1, Value: doc("a", word("word"), "b", number(5))}}) {
		t.Errorf("kept: %s, error %d", show(rows), why)
	}
}

// 12.3: what is handed in stays as it was, and room behind a list is not written to.
func TestLeavesItsArguments(t *testing.T) {
	for i := range 3000 {
		// The same numbers make the same arguments, so that these are their own copy.
		m, twin := newMaker(int64(i)), newMaker(int64(i))
		x, s, y, r := m.stmt(), m.state(), twin.stmt(), twin.state()
		x.Expr = append(make([]api.Step, 0, len(x.Expr)+3), x.Expr...)
		x.Expr[:len(x.Expr)+1][len(x.Expr)] = text("room")
		x.Items = append(make([]api.Item, 0, len(x.Items)+2), x.Items...)
		s.Tables = append(make([]api.Table, 0, len(s.Tables)+2), s.Tables...)
		p, _ := plan.Make(x, s)
		q, _ := plan.Make(x, s)
		plan.Rows(p, s)
		plan.First(x.Expr)
		room := x.Expr[:len(x.Expr)+1][len(x.Expr)]
		if !sameStmts(x, y) || !sameState(s, r) || !samePlan(p, q) || room != text("room") || x.Items[:len(x.Items)+1][len(x.Items)].Name != "" || s.Tables[:len(s.Tables)+1][len(s.Tables)].Name != "" {
			t.Fatalf("changed: %s, %s", show(x), show(s))
		}
	}
}

func sameState(a, b api.State) bool {
	sameVersion := func(a, b api.Version) bool {
		return a.Seq == b.Seq && a.Gone == b.Gone && value.Same(a.Value, b.Value)
	}
	sameDoc := func(a, b api.Doc) bool {
		return a.Id == b.Id && slices.EqualFunc(a.Versions, b.Versions, sameVersion)
	}
	return a.Seq == b.Seq && a.Last == b.Last && slices.EqualFunc(a.Tables, b.Tables, func(a, b api.Table) bool {
		return a.Name == b.Name && slices.Equal(a.Indexes, b.Indexes) && slices.EqualFunc(a.Docs, b.Docs, sameDoc)
	})
}

// What is done with an answer is nothing to a later one.
func TestAnswersAlike(t *testing.T) {
	x, s := read(t, "SELECT a AS x FROM t WHERE a = 1 AND b = 2"), small()
	for range 3 {
		p := made(t, x, s)
		rows, _ := plan.Rows(p, s)
		f := plan.First(x.Expr)
		if !samePlan(p, api.Plan{Stmt: x, HasKey: true, Index: "a", Key: number(1)}) || len(rows) != 4 || len(f) != 3 || !sameState(s, small()) {
			t.Fatalf("%s, %s", show(p), show(rows))
		}
		p.Stmt.Expr[0], p.Stmt.Items[0] = whole(1), api.Item{}
		rows[0].Value.Fields[0] = api.Field{}
		rows[1] = api.Row{}
		f[0] = whole(7)
	}
}

// P4.
func TestLeavesNoGoroutine(t *testing.T) {
	before := runtime.NumGoroutine()
	for _, text := range []string{"DELETE FROM t WHERE a = 1", "SELECT * FROM HISTORY(t)", "CREATE TABLE t", "DELETE FROM x"} {
		x := read(t, text)
		p, _ := plan.Make(x, small())
		plan.Rows(p, small())
		plan.First(x.Expr)
	}
	if now := runtime.NumGoroutine(); now > before {
		t.Errorf("%d goroutines, %d ahead", now, before)
	}
}

// P1: whatever is handed in, a call answers.
func TestAnything(t *testing.T) {
	r := rand.New(rand.NewSource(126))
	kinds := func() api.StepKind { return api.StepKind(r.Intn(26)) }
	for range 5000 {
		var l []api.Step
		for range r.Intn(5) {
			l = append(l, api.Step{Kind: kinds(), N: int64(r.Intn(4) - 1), Text: []string{"", "a", "\xff", "a,b"}[r.Intn(4)]})
		}
		x := api.Stmt{Kind: api.StmtKind(r.Intn(9)), Table: []string{"t", "", "\xff"}[r.Intn(3)], Expr: l, Items: make([]api.Item, r.Intn(2))}
		s := small()
		s.Tables[r.Intn(4)].Docs = make([]api.Doc, r.Intn(3))
		p, why := plan.Make(x, s)
		want, no := saidMake(x, s)
		if why != no || !samePlan(p, want) {
			t.Fatalf("Make(%s): %s, error %d, not %d", show(x), show(p), why, no)
		}
		plan.Rows(api.Plan{Stmt: x, HasKey: r.Intn(2) == 0, Key: api.Value{Kind: api.Kind(r.Intn(9))}}, s)
		plan.First(l)
	}
}
