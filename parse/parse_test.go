package parse_test

import (
	"runtime"
	"strings"
	"testing"

	"codicil/api"
	"codicil/lex"
	"codicil/parse"
)

// marked fails, unless a text has just that error at the place of its ^, which is no part of it.
func marked(t *testing.T, s string, want api.Errno) {
	t.Helper()
	ahead, behind, is := strings.Cut(s, "^")
	if !is {
		t.Fatal("no place in", show(s))
	}
	refuses(t, ahead+behind, want, len(ahead))
}

// cond fails, unless an expression is just these steps, in each statement that may have it.
func cond(t *testing.T, expr string, want ...api.Step) {
	t.Helper()
	reads(t, where(expr), api.Stmt{Kind: api.StmtDelete, Table: "t", Expr: want})
	reads(t, "SELECT "+expr+" AS x FROM t", api.Stmt{Kind: api.StmtSelect, Table: "t", Items: []api.Item{{Name: "x", Expr: want}}})
	reads(t, "UPDATE t SET x = "+expr, api.Stmt{Kind: api.StmtUpdate, Table: "t", Items: []api.Item{{Name: "x", Expr: want}}})
	if isClosed(want) {
		reads(t, "INSERT INTO t "+expr, api.Stmt{Kind: api.StmtInsert, Table: "t", Expr: want})
	} else {
		refuses(t, "INSERT INTO t "+expr, api.ErrSyntax, 0)
	}
}

func TestExample(t *testing.T) {
	reads(t, "select a + 1 as x from t where not b = 2 and c is null", api.Stmt{
		Kind: api.StmtSelect, Table: "t",
		Items: []api.Item{{Name: "x", Expr: steps(path("a"), whole(1), step(api.StepAdd))}},
		Expr:  steps(path("b"), whole(2), step(api.StepEqual), step(api.StepNot), path("c"), step(api.StepIsNull), step(api.StepAnd)),
	})
}

// statements are whole ones of each row of the chapter's table, with a space between tokens.
func statements() map[string]api.Stmt {
	a1 := api.Item{Name: "a", Expr: steps(whole(1))}
	bc := api.Item{Name: "b", Expr: steps(path("c"), step(api.StepNeg))}
	cond := steps(path("a"), whole(3), step(api.StepMore))
	return map[string]api.Stmt{
		"CREATE TABLE t":                                     {Kind: api.StmtTable, Table: "t"},
		"CREATE INDEX ON t ( f )":                            {Kind: api.StmtIndex, Table: "t", Field: "f"},
		"INSERT INTO t { a : 1 , b : [ ] }":                  {Kind: api.StmtInsert, Table: "t", Expr: steps(whole(1), list(0), structOf(2, "a,b"))},
		"INSERT INTO t 7":                                    {Kind: api.StmtInsert, Table: "t", Expr: steps(whole(7))},
		"UPDATE t SET a = 1":                                 {Kind: api.StmtUpdate, Table: "t", Items: []api.Item{a1}},
		"UPDATE t SET a = 1 , b = - c":                       {Kind: api.StmtUpdate, Table: "t", Items: []api.Item{a1, bc}},
		"UPDATE t SET a = 1 WHERE a > 3":                     {Kind: api.StmtUpdate, Table: "t", Items: []api.Item{a1}, Expr: cond},
		"UPDATE t SET b = - c , a = 1 WHERE a > 3":           {Kind: api.StmtUpdate, Table: "t", Items: []api.Item{bc, a1}, Expr: cond},
		"DELETE FROM t":                                      {Kind: api.StmtDelete, Table: "t"},
		"DELETE FROM t WHERE a > 3":                          {Kind: api.StmtDelete, Table: "t", Expr: cond},
		"SELECT * FROM t":                                    {Kind: api.StmtSelect, Table: "t"},
		"SELECT * FROM HISTORY ( t )":                        {Kind: api.StmtSelect, Table: "t", History: true},
		"SELECT * FROM t WHERE a > 3":                        {Kind: api.StmtSelect, Table: "t", Expr: cond},
		"SELECT * FROM t ORDER BY f":                         {Kind: api.StmtSelect, Table: "t", Field: "f"},
		"SELECT * FROM t ORDER BY f DESC":                    {Kind: api.StmtSelect, Table: "t", Field: "f", Desc: true},
		"SELECT * FROM HISTORY ( t ) WHERE a > 3 ORDER BY f": {Kind: api.StmtSelect, Table: "t", Field: "f", Expr: cond, History: true},
		"SELECT 1 AS a FROM t":                               {Kind: api.StmtSelect, Table: "t", Items: []api.Item{a1}},
		"SELECT 1 AS a , - c AS b FROM t":                    {Kind: api.StmtSelect, Table: "t", Items: []api.Item{a1, bc}},
		"SELECT 1 AS a , - c AS b FROM HISTORY ( t ) WHERE a > 3 ORDER BY f DESC": {Kind: api.StmtSelect, Table: "t", Items: []api.Item{a1, bc}, Expr: cond, Field: "f", Desc: true, History: true},
	}
}

// 10.1: each row of the chapter's table, in any case of its keywords, with any blanks or none where none are needed.
func TestStatements(t *testing.T) {
	for s, want := range statements() {
		reads(t, s, want)
		reads(t, strings.ReplaceAll(s, " ", "\r\n\t "), want)
		reads(t, "  "+s+"\n", want)
		lower := strings.ToLower(s)
		reads(t, lower, want)
		for _, sign := range strings.Fields("( ) [ ] { } , : = > -") {
			lower = strings.ReplaceAll(strings.ReplaceAll(lower, " "+sign, sign), sign+" ", sign)
		}
		reads(t, lower, want)
		if parse.Check(want) != api.OK {
			t.Errorf("Check of %s", show(s))
		}
	}
}

// 10.1: each of them cut short behind each token: it is whole already, or what is missing shows at its end.
func TestStatementsCutShort(t *testing.T) {
	for s := range statements() {
		words := strings.Fields(s)
		for i := range words {
			cut := strings.Join(words[:i], " ")
			if tokens, _, _ := lex.Lex(cut); wrongAt(tokens) < 0 {
				isAsSaid(t, cut)
				continue
			}
			refuses(t, cut, api.ErrSyntax, len(cut))
			refuses(t, cut+"  \n", api.ErrSyntax, len(cut)+3)
		}
	}
}

// 10.1: each of them with one token more behind it, ahead of it, and with another one.
func TestStatementsAndMore(t *testing.T) {
	for s, x := range statements() {
		for _, k := range append(strings.Fields("a 7 'x' = <> < <= > >= + - * ( ) [ ] { } , : ."), keys...) {
			// DESC goes on with an order, all else with what is not whole then.
			if isAsSaid(t, s+" "+k) == api.OK && sameStmts(x, fine(t, s+" "+k)) {
				t.Errorf("%s is as without %s", s, k)
			}
			isAsSaid(t, k+" "+s)
		}
		for _, k := range strings.Fields("a 7 'x' ) ] } : SELECT CREATE BY AS SET ALL IN ON NULL NOT") {
			refuses(t, s+" "+k, api.ErrSyntax, len(s)+1)
		}
		for other := range statements() {
			refuses(t, s+" "+other, api.ErrSyntax, len(s)+1)
		}
		refuses(t, "t "+s, api.ErrSyntax, 0)
		refuses(t, "("+s+")", api.ErrSyntax, 0)
		refuses(t, s+";", api.ErrSyntax, len(s))
	}
}

// 10.1: each token of them in whose place another one stands.
func TestStatementsWithAnother(t *testing.T) {
	more := append(strings.Fields("b 7 'x' <> - * ( [ { , ."), keys...)
	for s := range statements() {
		words := strings.Fields(s)
		for i, old := range words {
			for _, k := range more {
				words[i] = k
				isAsSaid(t, strings.Join(words, " "))
			}
			words[i] = old
		}
	}
}

// 10.1: no keyword is a name, wherever one is asked for; nor is a text, a number, a sign, a word that is too long.
func TestNames(t *testing.T) {
	for _, s := range []string{
		"CREATE TABLE ^", "CREATE INDEX ON ^ (f)", "CREATE INDEX ON t (^)", "INSERT INTO ^ 1", "UPDATE ^ SET a = 1", "UPDATE t SET ^ = 1", "UPDATE t SET a = 1, ^ = 1", "DELETE FROM ^", "SELECT 1 AS ^ FROM t",
		"SELECT 1 AS a, 1 AS ^ FROM t", "SELECT * FROM ^ WHERE a", "SELECT * FROM HISTORY(^)", "SELECT * FROM t ORDER BY ^", "DELETE FROM t WHERE {^ : 1}", "DELETE FROM t WHERE {a : 1, ^ : 1}", "DELETE FROM t WHERE a.^",
	} {
		for _, k := range keys {
			// HISTORY may stand there, but no WHERE behind it.
			if k == "HISTORY" && strings.HasPrefix(s, "SELECT * FROM ^") {
				continue
			}
			marked(t, strings.Replace(s, "^", "^"+k, 1), api.ErrSyntax)
			marked(t, strings.Replace(s, "^", "^"+strings.ToLower(k), 1), api.ErrSyntax)
		}
		for _, no := range []string{"'a'", "''", "-", "(", "*", "[a]", "{", ",", ":", ".", "= 7"} {
			marked(t, strings.Replace(s, "^", "^"+no, 1), api.ErrSyntax)
		}
		if !strings.HasSuffix(s, ".^") {
			marked(t, strings.Replace(s, "^", "^7", 1), api.ErrSyntax)
			marked(t, strings.Replace(s, "^", "b^.c", 1), api.ErrSyntax)
		}
		marked(t, strings.Replace(s, "^", "^"+xs(65), 1), api.ErrSyntax)
		for _, name := range []string{"b", "B", "_", "selects", "x1", xs(64), "Order_"} {
			fine(t, strings.Replace(s, "^", name, 1))
		}
	}
}

// 10.1: the errors of Lex, at their places, ahead of all that stands ahead of them.
func TestErrorsOfLex(t *testing.T) {
	for _, s := range []string{"", "DELETE FROM t", "SELECT", "!", "a 'open", "CREATE TABLE 7 01", "DELETE FROM t WHERE ((((((((((((((((( 5a", "UPDATE t SET a = 1, a = '\xff'", "INSERT INTO t a '" + xs(api.MaxText+1) + "'",
		strings.Repeat(" ", api.MaxBytes+1), "DELETE FROM t" + strings.Repeat(" ", api.MaxBytes), "DELETE FROM t\x00"} {
		if _, why, at := lex.Lex(s); why != api.OK {
			refuses(t, s, why, at)
		} else if s != "DELETE FROM t" {
			refuses(t, s, api.ErrSyntax, len(s))
		}
	}
	marked(t, "CREATE TABLE 7 ^01", api.ErrSyntax)
	marked(t, "a b ^'\xff'", api.ErrUtf)
	marked(t, "a b ^'"+xs(api.MaxText+1)+"'", api.ErrLong)
	refuses(t, strings.Repeat("(", api.MaxBytes+1), api.ErrLong, 0)
	reads(t, "DELETE FROM t"+strings.Repeat(" ", api.MaxBytes-13), api.Stmt{Kind: api.StmtDelete, Table: "t"})
	refuses(t, strings.Repeat(" ", api.MaxBytes), api.ErrSyntax, api.MaxBytes)
	refuses(t, strings.Repeat("(", api.MaxBytes), api.ErrSyntax, 0)
}

// 10.1: what is missing or too much, at the place of the token with which it shows.
func TestPlaces(t *testing.T) {
	for _, s := range []string{
		"^", "  ^", "^a", " ^7", "^'SELECT'", "^(SELECT * FROM t)", "^FROM", "CREATE ^", "CREATE ^t", "CREATE ^'TABLE'", "CREATE TABLE ^", "CREATE TABLE t^.a", "CREATE TABLE t ^(", "CREATE INDEX ^t (a)", "CREATE INDEX ON t ^a", "CREATE INDEX ON t (a ^",
		"CREATE INDEX ON t (a^, b)", "CREATE INDEX ON t (a^.b)", "CREATE INDEX ON t (^)", "INSERT ^t 1", "INSERT INTO t^", "INSERT INTO t 1^, 2", "INSERT INTO t 1 ^WHERE TRUE", "INSERT INTO t ^WHERE TRUE", "UPDATE t ^WHERE a", "UPDATE t SET ^", "UPDATE t SET ^WHERE a = 1",
		"UPDATE t SET a ^+ 1", "UPDATE t SET a =^= 1", "UPDATE t SET a = 1, ^", "UPDATE t SET a = 1, ^WHERE a", "UPDATE t SET a = 1 ^b = 2", "UPDATE t SET a^.b = 1", "UPDATE t SET ^(", "DELETE ^t", "DELETE FROM t^, u",
		"DELETE FROM t WHERE ^", "DELETE FROM t WHERE a ^WHERE b", "DELETE FROM t WHERE a ^ORDER BY b", "DELETE FROM t WHERE a^, b", "SELECT ^", "SELECT ^FROM t", "SELECT *^, 1 AS a FROM t", "SELECT 1 AS a, ^* FROM t", "SELECT 1 AS a, ^FROM t", "SELECT 1 ^a FROM t",
		"SELECT a^, b FROM t", "SELECT 1 AS a ^b FROM t", "SELECT * ^t", "SELECT * FROM t ^u", "SELECT * FROM ^(t)", "SELECT * FROM HISTORY ^t", "SELECT * FROM HISTORY ^WHERE a", "SELECT * FROM HISTORY(^)", "SELECT * FROM HISTORY(t^", "SELECT * FROM HISTORY(t^, u)", "SELECT * FROM t ORDER ^a",
		"SELECT * FROM t ORDER BY ^", "SELECT * FROM t ORDER BY a^, b", "SELECT * FROM t ORDER BY a DESC ^DESC", "SELECT * FROM t ORDER BY a ^ALL", "SELECT * FROM t ORDER BY a^.b", "SELECT * FROM t ORDER BY ^1", "SELECT * FROM t ORDER BY a ^WHERE b", "SELECT * FROM t ^DESC",
		"SELECT * FROM t WHERE a ^DESC", "SELECT ^ALL * FROM t", "SELECT * FROM t ^IN",
	} {
		marked(t, s, api.ErrSyntax)
	}
}

// 10.1: what an INSERT puts has no path, wherever it stands; this shows last of all.
func TestInsertOfPath(t *testing.T) {
	for _, s := range []string{"a", "(a)", "a.b", "{a: b}", "{a: 1, b: [1, c.0]}", "[a]", "-a", "NOT a", "1 + a", "a IS NULL", "TRUE AND a"} {
		refuses(t, "INSERT INTO t "+s, api.ErrSyntax, 0)
		refuses(t, " \n INSERT INTO t "+s, api.ErrSyntax, 0)
		marked(t, "INSERT INTO t "+s+" ^)", api.ErrSyntax)
	}
	for _, s := range []string{"{a: 1}", "{a: {b: 'c'}}", "[TRUE]", "'a'", "-1", "1 + 2 * 3 = 4 AND TRUE IS NULL"} {
		fine(t, "INSERT INTO t "+s)
	}
}

func TestLeavesNoGoroutine(t *testing.T) {
	before := runtime.NumGoroutine()
	x, _, _ := parse.Parse("SELECT a AS b FROM t WHERE a = 1")
	parse.Parse("SELECT a AS b FROM t WHERE a = 1 (")
	parse.Print(x)
	parse.Check(x)
	parse.Show(x.Expr)
	if now := runtime.NumGoroutine(); now > before {
		t.Errorf("%d goroutines, %d ahead", now, before)
	}
}
