package plan_test

import (
	"math"
	"slices"
	"testing"

	"codicil/api"
	"codicil/plan"
	"codicil/table"
	"codicil/value"
)

// keyed fails, unless a statement's plan has that key of that index.
func keyed(t *testing.T, x api.Stmt, s api.State, index string, key api.Value) {
	t.Helper()
	p := made(t, x, s)
	if !samePlan(p, api.Plan{Stmt: x, HasKey: true, Index: index, Key: key}) {
		t.Errorf("Make(%s): %s, not the key %s of %s", show(x), show(p), show(key), index)
	}
}

// keyless fails, unless a statement's plan is the statement alone.
func keyless(t *testing.T, x api.Stmt, s api.State) {
	t.Helper()
	p := made(t, x, s)
	if !samePlan(p, api.Plan{Stmt: x}) {
		t.Errorf("Make(%s): %s", show(x), show(p))
	}
}

// asking are the statements that may ask for a key.
var asking = []api.StmtKind{api.StmtUpdate, api.StmtDelete, api.StmtSelect}

// 12.1: each kind of statement over states with and without the table and the index.
func TestNames(t *testing.T) {
	none := api.State{}
	for _, s := range []string{"INSERT INTO t {}", "UPDATE t SET c = 1", "DELETE FROM t", "SELECT * FROM t", "SELECT a AS x FROM t ORDER BY a DESC", "SELECT * FROM HISTORY(t)", "DELETE FROM t WHERE a = 1", "INSERT INTO t 1", "CREATE INDEX ON t (c)"} {
		refused(t, read(t, s), none, api.ErrName)
		other := read(t, s)
		other.Table = "T"
		refused(t, other, small(), api.ErrName)
		if s != "DELETE FROM t WHERE a = 1" {
			keyless(t, read(t, s), small())
		}
	}
	keyless(t, read(t, "CREATE TABLE t"), none)
	keyless(t, read(t, "CREATE TABLE T"), small())
	keyless(t, read(t, "CREATE TABLE tt"), small())
	for _, name := range []string{"t", "u", "v", "w"} {
		refused(t, read(t, "CREATE TABLE "+name), small(), api.ErrTwice)
	}
	for name, fields := range map[string][]string{"t": {"a", "b"}, "v": {"b"}, "w": {"a"}} {
		for _, f := range []string{"a", "b", "c", "A"} {
			x := read(t, "CREATE INDEX ON "+name+" ("+f+")")
			if slices.Contains(fields, f) {
				refused(t, x, small(), api.ErrTwice)
			} else {
				keyless(t, x, small())
			}
		}
	}
	refused(t, read(t, "CREATE INDEX ON x (a)"), small(), api.ErrName)
	keyless(t, read(t, "CREATE INDEX ON u (a)"), small())
	// Of a SELECT the Field is an order's, which needs no index.
	keyless(t, read(t, "SELECT * FROM u ORDER BY zzz"), small())
	// There may be no room for a table or an index: that is told when it is done.
	full := api.State{}
	for i := range api.MaxTables {
		full.Tables = append(full.Tables, api.Table{Name: "t" + string(rune('a'+i)), Indexes: []string{"a", "b", "c", "d", "e", "f", "g", "h"}})
	}
	keyless(t, read(t, "CREATE TABLE t"), full)
	keyless(t, read(t, "CREATE INDEX ON ta (i)"), full)
}

// wrongStmts are statements that are not right.
func wrongStmts() []api.Stmt {
	item := api.Item{Name: "c", Expr: steps(whole(1))}
	return []api.Stmt{
		{}, {Kind: api.StmtCount, Table: "t"}, {Kind: 255, Table: "t"}, {Kind: api.StmtTable}, {Kind: api.StmtTable, Table: "select"}, {Kind: api.StmtTable, Table: "t", Field: "a"}, {Kind: api.StmtTable, Table: "t", Expr: steps(whole(1))},
		{Kind: api.StmtIndex, Table: "t"}, {Kind: api.StmtIndex, Table: "t", Field: "a.b"}, {Kind: api.StmtIndex, Table: "t", Field: "a", Desc: true}, {Kind: api.StmtInsert, Table: "t"}, {Kind: api.StmtInsert, Table: "t", Expr: steps(path("a"))},
		{Kind: api.StmtUpdate, Table: "t"}, {Kind: api.StmtUpdate, Table: "t", Items: []api.Item{item, item}}, {Kind: api.StmtUpdate, Table: "t", Items: []api.Item{item}, History: true}, {Kind: api.StmtDelete, Table: "t", Expr: steps(path("a"), whole(1))}, {Kind: api.StmtDelete, Table: "t", Items: []api.Item{item}},
		{Kind: api.StmtDelete, Table: "t", Expr: steps(path("a"), whole(-1), step(api.StepEqual))}, {Kind: api.StmtSelect, Table: "t", Desc: true}, {Kind: api.StmtSelect, Table: "\xff"}, {Kind: api.StmtSelect, Table: "t", Items: make([]api.Item, 65)}, {Kind: api.StmtNone, Table: "nothing"},
	}
}

// wrongStates are states that are not right.
func wrongStates() []api.State {
	out := []api.State{{Seq: 1<<62 + 1}, {Last: 1<<62 + 1}, {Tables: make([]api.Table, 17)}, {Tables: make([]api.Table, 1)}}
	for _, spoil := range []func(s *api.State){
		func(s *api.State) { s.Tables[1].Name = "t" },
		func(s *api.State) { s.Tables[0].Indexes[1] = "a" },
		func(s *api.State) { s.Tables[0].Docs[3].Id = 5 },
		func(s *api.State) { s.Tables[1].Docs[0].Id = 2 },
		func(s *api.State) { s.Tables[0].Docs[0].Versions = nil },
		func(s *api.State) { s.Tables[0].Docs[0].Versions[0].Value = number(1) },
		func(s *api.State) { s.Tables[0].Docs[0].Versions[0].Value.Fields[0].Name = "\xff" },
		func(s *api.State) { s.Seq = 8 },
		func(s *api.State) { s.Last = 29 },
	} {
		s := small()
		spoil(&s)
		out = append(out, s)
	}
	return out
}

// 12.1: statements that are not right, states that are not right, and each pair of errors.
func TestWrongInputs(t *testing.T) {
	names := []string{"CREATE TABLE t", "CREATE TABLE new", "CREATE INDEX ON t (a)", "CREATE INDEX ON new (a)", "INSERT INTO t {}", "INSERT INTO new {}", "UPDATE t SET a = 1", "DELETE FROM t WHERE a = 1", "DELETE FROM new", "SELECT * FROM t", "SELECT * FROM HISTORY(new)"}
	for _, s := range append(wrongStates(), small(), api.State{}) {
		for _, x := range wrongStmts() {
			refused(t, x, s, api.ErrSyntax)
		}
	}
	for _, s := range wrongStates() {
		for _, x := range names {
			refused(t, read(t, x), s, api.ErrState)
		}
	}
}

// 12.1: the chapter's example, and which conditions ask for a key.
func TestKeys(t *testing.T) {
	one := number(1)
	for s, want := range map[string]api.Plan{
		"a = 1": {Index: "a", Key: one}, "1 = a": {Index: "a", Key: one}, "b = 1": {Index: "b", Key: one}, "a = -1": {Index: "a", Key: number(-1)}, "-1 = b": {Index: "b", Key: number(-1)}, "a = 'x'": {Index: "a", Key: word("x")}, "'' = a": {Index: "a", Key: word("")},
		"a = TRUE": {Index: "a", Key: flag(true)}, "FALSE = a": {Index: "a", Key: flag(false)}, "a = 0": {Index: "a", Key: number(0)}, "a = -0": {Index: "a", Key: number(0)}, "a = 9223372036854775807": {Index: "a", Key: number(math.MaxInt64)}, "a = -9223372036854775807": {Index: "a", Key: number(-math.MaxInt64)},
		"a = 1 AND b > 2": {Index: "a", Key: one}, "a = 1 AND b = 2": {Index: "a", Key: one}, "b = 2 AND a = 1": {Index: "b", Key: number(2)}, "1 = a AND b = 2 AND c = 3": {Index: "a", Key: one}, "(a = 1 AND b) AND (c AND d)": {Index: "a", Key: one}, "((a = 1 AND b) AND c) AND d": {Index: "a", Key: one}, "a = 1 AND (b OR c)": {Index: "a", Key: one}, "a = 1 AND NOT b": {Index: "a", Key: one}, "(a = 1) AND -'x'": {Index: "a", Key: one}, "(a) = (1)": {Index: "a", Key: one},
	} {
		for _, kind := range asking {
			keyed(t, with(kind, where(t, s)...), small(), want.Index, want.Key)
		}
		history := with(api.StmtSelect, where(t, s)...)
		history.History = true
		keyless(t, history, small())
	}
	for _, s := range []string{
		"b > 2 AND a = 1", "c = 1", "c = 1 AND a = 1", "a = 1 OR b = 2", "a = 1 OR a = 1", "(a = 1 OR b = 2) AND a = 1", "NOT a = 1", "NOT (a = 1) AND b = 1", "(a = 1) IS NULL", "NOT (a = 1 AND b = 1)", "a = 1 AND b = 1 OR c", "[a = 1] = [TRUE]",
		"a = b", "a = a", "b = c", "1 = 1", "'x' = TRUE", "a = NULL", "NULL = a", "a = c", "a.b = 1", "1 = a.b", "a.a = 1", "a.0 = 1", "a = a.b", "A = 1", "x = 1", "a = 1 + 1", "a = --1", "a = [1]", "a = []", "a = {}", "a = {a: 1}", "a = -a", "-a = 1", "a + 0 = 1", "(a = 1) = TRUE", "TRUE = (a = 1)", "a = NOT_a", "a = (NOT TRUE)", "a = (1 = 1)", "a IS NULL", "a IS NOT NULL",
		"a <> 1", "a < 1", "a <= 1", "a > 1", "a >= 1", "1 < a", "a", "b", "TRUE", "NULL", "1", "a AND a = 1", "TRUE AND a = 1", "NULL AND a = 1", "(b AND a = 1) AND a = 1", "[a, 1] IS NULL", "a + 1", "[a, 1]", "{a: a, b: 1}",
	} {
		for _, kind := range asking {
			keyless(t, with(kind, where(t, s)...), small())
		}
	}
	for _, kind := range asking {
		keyless(t, with(kind), small())
	}
	keyed(t, read(t, "DELETE FROM t WHERE a = 1 AND b > 2"), small(), "a", one)
	keyless(t, read(t, "DELETE FROM t WHERE b > 2 AND a = 1"), small())
	keyless(t, read(t, "DELETE FROM u WHERE a = 1"), small())
	keyless(t, read(t, "DELETE FROM w WHERE b = 1"), small())
	keyed(t, read(t, "DELETE FROM w WHERE a = 1"), small(), "a", one)
	keyed(t, read(t, "SELECT a AS x, b = 2 AS y FROM t WHERE a = 1 ORDER BY b DESC"), small(), "a", one)
	keyed(t, read(t, "UPDATE t SET a = 3, b = a = 2 WHERE 'x' = b"), small(), "b", word("x"))
	keyless(t, read(t, "UPDATE t SET a = 1"), small())
	keyless(t, read(t, "INSERT INTO t 1 = 1"), small())
	keyless(t, api.Stmt{Kind: api.StmtInsert, Table: "t", Expr: steps(text("a"), whole(1), step(api.StepEqual))}, small())
}

// 12.1: a path of two names is not the index whose name has a full stop in it.
func TestNamesOfIndexes(t *testing.T) {
	for _, s := range []string{"a.b = 1", "1 = a.b", "a.b = 2 AND b = 1", "a = 1"} {
		x := read(t, "DELETE FROM v WHERE "+s)
		keyless(t, x, small())
		l, why := plan.Rows(made(t, x, small()), small())
		if why != api.OK || !slices.Equal(ids(l), []uint64{20}) {
			t.Errorf("%s: %s, error %d", s, show(l), why)
		}
	}
	long := small()
	long.Tables[3].Indexes = []string{xs(64), xs(65), "_"}
	keyed(t, read(t, "DELETE FROM w WHERE "+xs(64)+" = 1"), long, xs(64), number(1))
	keyed(t, read(t, "DELETE FROM w WHERE _ = 1"), long, "_", number(1))
	keyless(t, read(t, "DELETE FROM w WHERE "+xs(63)+" = 1"), long)
}

// 12.1: the greatest conditions: a constant as long as may be, as many ANDs as may be.
func TestGreatKeys(t *testing.T) {
	for _, kind := range asking {
		keyed(t, with(kind, path("a"), text(xs(1024)), step(api.StepEqual)), small(), "a", word(xs(1024)))
		l := steps(whole(1), path("b"), step(api.StepEqual))
		for range 62 {
			l = append(l, path("a"), step(api.StepAnd))
		}
		keyed(t, with(kind, l...), small(), "b", number(1))
		keyed(t, with(kind, append(l[:3:3], whole(2), step(api.StepAnd))...), small(), "b", number(1))
		keyless(t, with(kind, append(l, step(api.StepNot))...), small())
		refused(t, with(kind, append(l, step(api.StepNot), step(api.StepNot))...), small(), api.ErrSyntax)
		// ANDs on the right: the first part is the condition at once.
		r := steps(path("a"), text("x"), step(api.StepEqual))
		for range 62 {
			r = append(r, step(api.StepTrue))
		}
		for range 62 {
			r = append(r, step(api.StepAnd))
		}
		keyed(t, with(kind, r...), small(), "a", word("x"))
	}
}

// 12.1: the first condition.
func TestFirst(t *testing.T) {
	for s, want := range map[string]string{
		"a": "a", "1": "1", "a = 1": "a = 1", "a AND b": "a", "a = 1 AND b": "a = 1", "a AND b AND c AND d": "a", "a AND (b AND c)": "a", "(a AND b) AND (c AND d)": "a", "((a = 1 AND b) AND c)": "a = 1", "a OR b": "a OR b", "(a OR b) AND c": "a OR b", "a AND b OR c": "a AND b OR c", "NOT a AND b": "NOT a", "NOT (a AND b)": "NOT (a AND b)", "(a AND b) IS NULL": "(a AND b) IS NULL",
		"(a AND b) = TRUE": "(a AND b) = TRUE", "[a AND b] AND c": "[a AND b]", "{x: a AND b}": "{x: a AND b}", "(a OR b AND c) AND d": "a OR b AND c", "(NOT (a AND b) AND c) AND d": "NOT (a AND b)", "NULL AND a": "NULL", "1 AND 2": "1", "{a: 1, b: [2]} AND c": "{a: 1, b: [2]}",
	} {
		if l := plan.First(where(t, s)); !slices.Equal(l, where(t, want)) {
			t.Errorf("First(%s): %s", s, show(l))
		}
	}
	l := steps(path("a"))
	for range 63 {
		l = append(l, path("b"), step(api.StepAnd))
	}
	if f := plan.First(l); !slices.Equal(f, steps(path("a"))) {
		t.Errorf("First: %s", show(f))
	}
	for _, l := range [][]api.Step{nil, {}, {step(api.StepAnd)}, {path("a"), step(api.StepAnd)}, {path("a"), path("b")}, {path("a"), path("b"), step(api.StepAnd), step(api.StepAnd)}, {whole(-1)}, {whole(-1), path("a"), step(api.StepAnd)}, {path("a"), whole(-1), step(api.StepAnd)}, {path("a"), path("b"), {Kind: api.StepAnd, N: 1}}, {{}},
		append(l, path("b"), step(api.StepAnd)), make([]api.Step, 1<<16)} {
		if f := plan.First(l); len(f) != 0 {
			t.Errorf("First(%s): %s", show(l), show(f))
		}
	}
}

// 12.2: what is looked at.
func TestRows(t *testing.T) {
	current := []uint64{2, 3, 5, 7, 8, 11, 12, 13, 14, 15, 17, 18, 19, 30}
	for s, want := range map[string][]uint64{
		"": current, "c = 1": current, "a = 1 OR b = 1": current, "b > 2 AND a = 1": current, "a = NULL": current, "a IS NULL": current, "a.b = 1": current, "a = [1]": current, "NOT a = 1": current, "FALSE": current, "-'x'": current,
		"a = 1": {2, 5, 18, 30}, "1 = a AND b = 5": {2, 5, 18, 30}, "a = 2": {3}, "a = -1": {17}, "a = '1'": {11}, "a = TRUE": {12}, "a = FALSE": nil, "a = ''": {19}, "a = 0": nil, "a = 3": nil, "a = 'x'": nil, "a = 9223372036854775807": nil,
		"b = 5": {2, 17}, "b = 1": {7}, "b = 'x'": {8}, "b = 7": nil, "b = 5 AND -'x'": {2, 17},
	} {
		if s != "" {
			s = " WHERE " + s
		}
		for _, head := range []string{"DELETE FROM t", "SELECT * FROM t", "SELECT a AS x FROM t", "UPDATE t SET a = 9"} {
			x := read(t, head+s)
			p := made(t, x, small())
			l, why := plan.Rows(p, small())
			if why != api.OK || !slices.Equal(ids(l), want) {
				t.Errorf("%s%s: %v, error %d, not %v", head, s, ids(l), why, want)
			}
			all, _ := table.Current(small(), "t")
			all = slices.DeleteFunc(all, func(r api.Row) bool { return !slices.Contains(want, r.Doc) })
			if !sameRows(l, all) {
				t.Errorf("%s%s: %s", head, s, show(l))
			}
		}
		history := read(t, "SELECT * FROM HISTORY(t)"+s)
		whole, _ := table.History(small(), "t", 9)
		rowsAre(t, made(t, history, small()), small(), whole)
		if len(whole) != 20 {
			t.Fatal(len(whole))
		}
	}
	for _, s := range []string{"CREATE TABLE x", "CREATE INDEX ON t (c)", "INSERT INTO t {a: 1}", "DELETE FROM w", "SELECT * FROM w WHERE a = 1", "SELECT * FROM HISTORY(w)"} {
		rowsAre(t, made(t, read(t, s), small()), small(), nil)
	}
	rowsAre(t, made(t, read(t, "DELETE FROM u"), small()), small(), []api.Row{{Doc: 1, Seq: 1, Value: doc("a", number(1))}})
	rowsAre(t, made(t, read(t, "SELECT * FROM HISTORY(u) WHERE a = 1"), small()), small(), []api.Row{{Doc: 1, Seq: 1, Value: doc("a", number(1))}, {Doc: 4, Seq: 1, Value: doc("a", number(2))}, {Doc: 4, Version: 1, Seq: 2, Gone: true}})
}

// 12.2: a table with as many documents and versions as may be: History has more rows than an answer of a statement.
func TestManyRows(t *testing.T) {
	s := api.State{Seq: 1 << 62, Last: 256, Tables: []api.Table{{Name: "t", Indexes: []string{"a"}}}}
	for i := range 256 {
		v := doc("a", number(int64(i%2)))
		s.Tables[0].Docs = append(s.Tables[0].Docs, api.Doc{Id: uint64(i + 1), Versions: []api.Version{{Seq: 1, Value: v}, {Seq: 1 << 62, Value: v}}})
	}
	for text, want := range map[string]int{"SELECT * FROM t": 256, "SELECT * FROM HISTORY(t)": 512, "DELETE FROM t WHERE a = 1": 128, "DELETE FROM t WHERE a = 0 AND a = 1": 128, "DELETE FROM t WHERE a = 2": 0} {
		l, why := plan.Rows(made(t, read(t, text), s), s)
		if why != api.OK || len(l) != want || !slices.IsSortedFunc(l, func(a, b api.Row) int { return int(a.Doc) - int(b.Doc) }) {
			t.Errorf("%s: %d rows, error %d", text, len(l), why)
		}
	}
}

// 12.2: a plan that Make does not answer, in each field.
func TestOtherPlans(t *testing.T) {
	spoils := []func(p *api.Plan){
		func(p *api.Plan) { p.HasKey = !p.HasKey },
		func(p *api.Plan) { p.Index += "a" },
		func(p *api.Plan) { p.Key.N++ },
		func(p *api.Plan) { p.Key.S += "x" },
		func(p *api.Plan) { p.Key.B = !p.Key.B },
		func(p *api.Plan) { p.Key.Kind++ },
		func(p *api.Plan) { p.Key.Kind = 255 },
		func(p *api.Plan) { p.Key.List = []api.Value{{}} },
		func(p *api.Plan) { p.Key.Fields = []api.Field{{}} },
		func(p *api.Plan) { p.Key = all(number(1)) },
		func(p *api.Plan) {
			p.Key = null()
			for range 1 << 16 {
				p.Key = all(p.Key)
			}
		},
	}
	for _, s := range []string{"DELETE FROM t WHERE a = 1", "UPDATE t SET a = 1 WHERE 'x' = b", "SELECT * FROM t WHERE a = TRUE", "DELETE FROM t", "SELECT * FROM HISTORY(t) WHERE a = 1", "SELECT * FROM t WHERE c = 1", "INSERT INTO t {}", "CREATE TABLE x", "CREATE INDEX ON t (c)"} {
		for i, spoil := range spoils {
			p := made(t, read(t, s), small())
			spoil(&p)
			if l, why := plan.Rows(p, small()); why != api.ErrType || len(l) > 0 {
				t.Errorf("%s, spoilt by %d: %s, error %d", s, i, show(l), why)
			}
		}
		for _, key := range []api.Plan{{HasKey: true, Index: "b", Key: number(1)}, {HasKey: true, Index: "c", Key: number(2)}, {HasKey: true}, {Index: "b"}, {Key: flag(false)}} {
			key.Stmt = read(t, s)
			if l, why := plan.Rows(key, small()); why != api.ErrType || len(l) > 0 {
				t.Errorf("%s: %s, error %d", s, show(l), why)
			}
		}
	}
	// A key that is asked for must be taken, and one of another state's index must not.
	p := made(t, read(t, "DELETE FROM t WHERE a = 1"), small())
	bare := small()
	bare.Tables[0].Indexes = []string{"b"}
	if l, why := plan.Rows(p, bare); why != api.ErrType || len(l) > 0 {
		t.Errorf("Rows: %s, error %d", show(l), why)
	}
	if l, why := plan.Rows(api.Plan{Stmt: p.Stmt}, small()); why != api.ErrType || len(l) > 0 {
		t.Errorf("Rows: %s, error %d", show(l), why)
	}
	rowsAre(t, api.Plan{Stmt: p.Stmt}, bare, currentOf(t, bare))
	// Empty lists are like none.
	p.Key.List, p.Key.Fields, p.Stmt.Items = []api.Value{}, []api.Field{}, []api.Item{}
	l, why := plan.Rows(p, small())
	if why != api.OK || len(l) != 4 {
		t.Errorf("Rows: %s, error %d", show(l), why)
	}
}

func currentOf(t *testing.T, s api.State) []api.Row {
	t.Helper()
	l, why := table.Current(s, "t")
	if why != api.OK {
		t.Fatalf("Current: error %d", why)
	}
	return l
}

// 12.2: what is spoilt in the statement or the state is told ahead of what is spoilt in the plan.
func TestOrderOfErrors(t *testing.T) {
	for _, spoilt := range []api.Plan{{}, {HasKey: true}, {Index: "a"}, {Key: api.Value{Kind: 99}}} {
		spoilt.Stmt = read(t, "DELETE FROM t WHERE a = 1")
		for _, s := range wrongStates() {
			if _, why := plan.Rows(spoilt, s); why != api.ErrState {
				t.Errorf("error %d", why)
			}
		}
		if _, why := plan.Rows(spoilt, api.State{}); why != api.ErrName {
			t.Errorf("error %d", why)
		}
		spoilt.Stmt = read(t, "CREATE TABLE t")
		if _, why := plan.Rows(spoilt, small()); why != api.ErrTwice {
			t.Errorf("error %d", why)
		}
		spoilt.Stmt = read(t, "CREATE INDEX ON t (a)")
		if _, why := plan.Rows(spoilt, small()); why != api.ErrTwice {
			t.Errorf("error %d", why)
		}
		spoilt.Stmt.Field = ""
		if _, why := plan.Rows(spoilt, api.State{Seq: 1 << 63}); why != api.ErrSyntax {
			t.Errorf("error %d", why)
		}
	}
}

// The key is found as = finds it: by value.Compare.
func TestSameAsEqual(t *testing.T) {
	for _, s := range []string{"a = 1", "a = '1'", "a = TRUE", "a = ''", "b = 5"} {
		p := made(t, read(t, "DELETE FROM t WHERE "+s), small())
		l, _ := plan.Rows(p, small())
		for _, r := range currentOf(t, small()) {
			v, is := value.Get(r.Value, []string{p.Index})
			if same := is && value.Compare(v, p.Key) == 0; same != slices.Contains(ids(l), r.Doc) {
				t.Errorf("%s: document %d", s, r.Doc)
			}
		}
	}
}
