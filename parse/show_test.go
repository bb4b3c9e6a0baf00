package parse_test

import (
	"math"
	"math/rand"
	"slices"
	"strings"
	"testing"

	"codicil/api"
	"codicil/lex"
	"codicil/parse"
)

// 10.3: the text of each kind of step.
func TestShow(t *testing.T) {
	a, b := path("a"), path("b")
	for want, l := range map[string][]api.Step{
		"NULL": {step(api.StepNull)}, "TRUE": {step(api.StepTrue)}, "FALSE": {step(api.StepFalse)},
		"0": {whole(0)}, "9223372036854775807": {whole(math.MaxInt64)},
		"''": {text("")}, "'it''s'": {text("it's")}, "''''''": {text("''")}, "'\n\x00é'": {text("\n\x00é")},
		"a": {a}, "a.0.b": {path("a.0.b")},
		"[]": {list(0)}, "[a]": {a, list(1)}, "[a, b]": {a, b, list(2)}, "[[a], [], b]": {a, list(1), list(0), b, list(3)},
		"{}": {structOf(0, "")}, "{x: a}": {a, structOf(1, "x")}, "{x: a, y: b}": {a, b, structOf(2, "x,y")}, "{y: {x: a}, a: [b]}": {a, structOf(1, "x"), b, list(1), structOf(2, "y,a")},
		"(-a)": {a, step(api.StepNeg)}, "(-(-1))": {whole(1), step(api.StepNeg), step(api.StepNeg)},
		"(NOT a)": {a, step(api.StepNot)}, "(NOT (NOT a))": {a, step(api.StepNot), step(api.StepNot)},
		"(a IS NULL)": {a, step(api.StepIsNull)}, "(NOT (a IS NULL))": {a, step(api.StepIsNull), step(api.StepNot)}, "((a IS NULL) IS NULL)": {a, step(api.StepIsNull), step(api.StepIsNull)},
		"(a + b)": {a, b, step(api.StepAdd)}, "(a - b)": {a, b, step(api.StepSub)}, "(a * b)": {a, b, step(api.StepMul)}, "(a = b)": {a, b, step(api.StepEqual)}, "(a <> b)": {a, b, step(api.StepUnlike)},
		"(a < b)": {a, b, step(api.StepLess)}, "(a <= b)": {a, b, step(api.StepMost)}, "(a > b)": {a, b, step(api.StepMore)}, "(a >= b)": {a, b, step(api.StepLeast)}, "(a AND b)": {a, b, step(api.StepAnd)}, "(a OR b)": {a, b, step(api.StepOr)},
		"(a + (b * 1))": {a, b, whole(1), step(api.StepMul), step(api.StepAdd)}, "((a + b) * 1)": {a, b, step(api.StepAdd), whole(1), step(api.StepMul)}, "[(-a), (a + b)]": {a, step(api.StepNeg), a, b, step(api.StepAdd), list(2)},
	} {
		if s, why := parse.Show(l); s != want || why != api.OK {
			t.Errorf("Show(%s): %s, error %d, not %s", show(l), show(s), why, show(want))
		}
		cond(t, want, l...)
	}
	for _, l := range [][]api.Step{nil, {}, {step(api.StepNot)}, {a, b}, {whole(-1)}, make([]api.Step, 200)} {
		if s, why := parse.Show(l); s != "" || why != api.ErrSyntax {
			t.Errorf("Show(%s): %s, error %d", show(l), show(s), why)
		}
	}
}

// 10.3: the texts of statements.
func TestPrint(t *testing.T) {
	for s, want := range map[string]string{
		"create table t":                                         "CREATE TABLE t",
		"create index on t(a)":                                   "CREATE INDEX ON t (a)",
		"insert into t {a:1,b:[true,null]}":                      "INSERT INTO t {a: 1, b: [TRUE, NULL]}",
		"update t set a=1,b=2 where a=3":                         "UPDATE t SET a = 1, b = 2 WHERE (a = 3)",
		"update t set a=a":                                       "UPDATE t SET a = a",
		"delete from t":                                          "DELETE FROM t",
		"delete from t where (a)":                                "DELETE FROM t WHERE a",
		"delete from t where a is not null":                      "DELETE FROM t WHERE (NOT (a IS NULL))",
		"select*from t":                                          "SELECT * FROM t",
		"select * from history(t)order by a desc":                "SELECT * FROM HISTORY(t) ORDER BY a DESC",
		"select a . b as x,1 as y from t":                        "SELECT a.b AS x, 1 AS y FROM t",
		"select a as a from history ( t ) where -a<1 order by b": "SELECT a AS a FROM HISTORY(t) WHERE ((-a) < 1) ORDER BY b",
		"select * from t where a or b and not c order by x desc": "SELECT * FROM t WHERE (a OR (b AND (NOT c))) ORDER BY x DESC",
	} {
		x := fine(t, s)
		if p, why := parse.Print(x); p != want || why != api.OK {
			t.Errorf("Print of %s: %s, error %d, not %s", show(s), show(p), why, show(want))
		}
		reads(t, want, x)
	}
	if s, why := parse.Print(api.Stmt{}); s != "" || why != api.ErrSyntax {
		t.Errorf("Print: %q, error %d", s, why)
	}
}

// nestOf is how deep the brackets and signs ahead of a text that Show made are nested: there each NOT and - ahead has a bracket of its own, and reaches to its end.
func nestOf(s string) int {
	tokens, _, _ := lex.Lex(s)
	var opened []int
	now, most := 0, 0
	for i, k := range tokens {
		if k.Kind != api.TokenSign && k.Kind != api.TokenKey {
			continue
		}
		switch {
		case slices.Contains([]string{"(", "[", "{"}, k.Text):
			now++
			opened = append(opened, 1)
		case slices.Contains([]string{")", "]", "}"}, k.Text):
			now -= opened[len(opened)-1]
			opened = opened[:len(opened)-1]
		case (k.Text == "NOT" || k.Text == "-") && tokens[i-1].Kind == api.TokenSign && tokens[i-1].Text == "(":
			now++
			opened[len(opened)-1]++
		}
		most = max(most, now)
	}
	return most
}

// 10.5: Parse of Print is the statement, unless its text is too long, or too deep.
func TestThereAndBack(t *testing.T) {
	m := &maker{Rand: rand.New(rand.NewSource(105))}
	met := map[api.Errno]int{}
	for i := range 6000 {
		x := m.rightStmt(3+i%126, 3+i%20)
		s, why := parse.Print(x)
		if why != api.OK {
			t.Fatalf("Print(%s): error %d", show(x), why)
		}
		y, why, _ := parse.Parse(s)
		met[why]++
		switch {
		case len(s) > api.MaxBytes:
			refuses(t, s, api.ErrLong, 0)
		case nestOf(s) > api.MaxNest:
			if why != api.ErrDepth {
				t.Errorf("Parse(%s): error %d", show(s), why)
			}
		case why != api.OK || !sameStmts(x, y):
			t.Errorf("Parse(%s): %s, error %d, not %s", show(s), show(y), why, show(x))
		}
		if t.Failed() {
			return
		}
	}
	countsOf(t, met, api.OK, api.ErrDepth)
}

// 10.5: the greatest ones, too: MaxExpr steps, MaxParts items, texts and names as long as may be.
func TestGreatThereAndBack(t *testing.T) {
	var l []api.Step
	for range api.MaxParts - 1 {
		l = append(l, path("a"), list(1))
	}
	l = append(l, list(0), list(api.MaxParts))
	all := strings.Join(names(api.MaxParts), ",")
	var ones []api.Step
	for range api.MaxParts {
		ones = append(ones, text(strings.Repeat("'", 20)))
	}
	var items []api.Item
	for i, name := range names(api.MaxParts) {
		items = append(items, api.Item{Name: xs(64-len(name)) + name, Expr: steps(whole(int64(i)))})
	}
	for _, x := range []api.Stmt{
		{Kind: api.StmtDelete, Table: xs(64), Expr: l},
		{Kind: api.StmtInsert, Table: "t", Expr: append(slices.Clone(ones), structOf(api.MaxParts, all))},
		{Kind: api.StmtUpdate, Table: "t", Items: items, Expr: steps(text(xs(api.MaxText)))},
		{Kind: api.StmtSelect, Table: xs(64), Items: items, Field: xs(64), Desc: true, History: true, Expr: steps(text(strings.Repeat("'", api.MaxText)))},
	} {
		s, why := parse.Print(x)
		if why != api.OK {
			t.Errorf("Print(%s): error %d", show(x), why)
		}
		reads(t, s, x)
	}
	// A text that is too long is printed, but not read again.
	for i := range items {
		items[i].Expr = steps(text(strings.Repeat("'", api.MaxText)))
	}
	x := api.Stmt{Kind: api.StmtSelect, Table: "t", Items: items}
	s, why := parse.Print(x)
	if why != api.OK || s != saidPrint(x) || len(s) < 64*2050 {
		t.Errorf("Print: %d bytes, error %d", len(s), why)
	}
	refuses(t, s, api.ErrLong, 0)
}

// 10.5, 10.6: what is read is right, and what it is printed as is read as the same, and printed so again.
func TestShownOnce(t *testing.T) {
	m := &maker{Rand: rand.New(rand.NewSource(106))}
	met := 0
	for range 5000 {
		m.room = m.Intn(50)
		x, why, _ := parse.Parse(m.derived("statement"))
		if why != api.OK {
			continue
		}
		if !isRightStmt(x) || parse.Check(x) != api.OK {
			t.Fatalf("read, but not right: %s", show(x))
		}
		s, why := parse.Print(x)
		if why != api.OK {
			t.Fatalf("Print(%s): error %d", show(x), why)
		}
		if nestOf(s) > api.MaxNest {
			continue
		}
		met++
		reads(t, s, x)
		y, _, _ := parse.Parse(s)
		if again, why := parse.Print(y); again != s || why != api.OK {
			t.Fatalf("Print: %s, then %s, error %d", show(s), show(again), why)
		}
	}
	if met < 1000 {
		t.Errorf("%d statements", met)
	}
}
