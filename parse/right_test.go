package parse_test

import (
	"fmt"
	"math"
	"math/rand"
	"slices"
	"strings"
	"testing"

	"codicil/api"
	"codicil/parse"
)

// 10.2: how many values right steps take.
func TestTakes(t *testing.T) {
	all := strings.Join(names(api.MaxParts), ",")
	for _, c := range []struct {
		s    api.Step
		want int
	}{
		{step(api.StepNull), 0}, {step(api.StepTrue), 0}, {step(api.StepFalse), 0},
		{whole(0), 0}, {whole(7), 0}, {whole(math.MaxInt64), 0},
		{text(""), 0}, {text("a'b\x00é"), 0}, {text(xs(api.MaxText)), 0},
		{path("a"), 0}, {path("_.0.x1.9223372036854775807"), 0}, {path(strings.Repeat("ab.", api.MaxText/3) + "a"), 0},
		{list(0), 0}, {list(1), 1}, {list(api.MaxParts), api.MaxParts},
		{structOf(0, ""), 0}, {structOf(1, "a"), 1}, {structOf(2, "b,a"), 2}, {structOf(2, "a,A"), 2}, {structOf(api.MaxParts, all), api.MaxParts}, {structOf(2, xs(64)+","+xs(63)), 2},
		{step(api.StepNeg), 1}, {step(api.StepNot), 1}, {step(api.StepIsNull), 1},
		{step(api.StepAdd), 2}, {step(api.StepSub), 2}, {step(api.StepMul), 2}, {step(api.StepEqual), 2}, {step(api.StepUnlike), 2}, {step(api.StepLess), 2}, {step(api.StepMost), 2}, {step(api.StepMore), 2}, {step(api.StepLeast), 2}, {step(api.StepAnd), 2}, {step(api.StepOr), 2},
	} {
		if n, is := parse.Takes(c.s); n != c.want || !is {
			t.Errorf("Takes(%s): %d, %v", show(c.s), n, is)
		}
	}
}

// wrongSteps are not right, each in another way.
func wrongSteps() []api.Step {
	out := []api.Step{
		{}, {Text: "a"}, {N: 1}, step(api.StepCount), step(255), {Kind: api.StepCount, N: 1},
		whole(-1), whole(math.MinInt64), {Kind: api.StepInt, N: 1, Text: "1"},
		text(xs(api.MaxText + 1)), text("\xff"), text("a\xed\xa0\x80"), {Kind: api.StepText, Text: "a", N: 1}, {Kind: api.StepText, N: -1},
		path(""), path("."), path("a."), path(".a"), path("a..b"), path("0"), path("0.a"), path("a b"), path(" a"), path("a "), path("a. b"), path("a.01"), path("a.00"), path("a.-1"), path("a.+1"), path("a.1a"), path("a.1_0"), path("a.9223372036854775808"), path("a.18446744073709551617"),
		path("from"), path("From"), path("a.from"), path("a.NULL.b"), path("a.é"), path("a.'b'"), path("a,b"), path("a\x00"), path("\xff"), path(xs(65)), path("a." + xs(65)), path(strings.Repeat("ab.", api.MaxText/3) + "ab"), path(strings.Repeat("a.", 1<<16) + "a"), {Kind: api.StepPath, Text: "a", N: 1}, path("a." + strings.Repeat("0", 64)),
		list(-1), list(api.MaxParts + 1), list(math.MaxInt64), list(math.MinInt64), list(1 << 32), list(1<<32 + 1), {Kind: api.StepList, N: 1, Text: "a"}, {Kind: api.StepList, Text: ","},
		structOf(-1, ""), structOf(-1, "a"), structOf(0, "a"), structOf(0, ","), structOf(0, " "), structOf(1, ""), structOf(1, "a,b"), structOf(2, "a"), structOf(2, "a,"), structOf(2, ",a"), structOf(2, ","), structOf(3, "a,b"), structOf(2, "a,b,c"), structOf(2, "a, b"), structOf(2, "a,a"), structOf(3, "a,b,a"), structOf(1, "from"),
		structOf(2, "a,Null"), structOf(1, "1"), structOf(1, "a.b"), structOf(1, "é"), structOf(1, xs(65)), structOf(1, " a"), structOf(2, "a:b"), structOf(2, "a;b"), structOf(api.MaxParts+1, strings.Join(names(api.MaxParts+1), ",")), structOf(api.MaxParts, strings.Join(names(api.MaxParts-1), ",")+",n0"),
		structOf(1<<32+1, "a"), structOf(math.MinInt64, ""), structOf(1, strings.Repeat(",", 1<<20)), structOf(64, strings.Repeat("a,", 1<<20)),
	}
	for kind := api.StepNull; kind < api.StepCount; kind++ {
		switch kind {
		case api.StepInt, api.StepText, api.StepPath, api.StepList, api.StepStruct:
		default:
			out = append(out, api.Step{Kind: kind, N: 1}, api.Step{Kind: kind, N: -1}, api.Step{Kind: kind, Text: "a"}, api.Step{Kind: kind, Text: " "})
		}
	}
	return out
}

// 10.2: steps that are not right, alone, and among others.
func TestWrongSteps(t *testing.T) {
	for _, s := range wrongSteps() {
		if n, is := parse.Takes(s); n != 0 || is {
			t.Errorf("Takes(%s): %d, %v", show(s), n, is)
		}
		for _, l := range [][]api.Step{{s}, {whole(1), s}, {s, step(api.StepNot)}, {whole(1), s, step(api.StepAdd)}, {whole(1), whole(2), s}} {
			if parse.Right(l) {
				t.Errorf("Right(%s)", show(l))
			}
			if text, why := parse.Show(l); text != "" || why != api.ErrSyntax {
				t.Errorf("Show(%s): %s, error %d", show(l), show(text), why)
			}
			if parse.Check(api.Stmt{Kind: api.StmtDelete, Table: "t", Expr: l}) != api.ErrSyntax {
				t.Errorf("Check of %s", show(l))
			}
		}
	}
}

// 10.2: each kind of step with each number and text.
func TestTakesAsSaid(t *testing.T) {
	texts := []string{"", "a", "A", "a,b", "b,a", "a,a", "a,b,c", "a.b", "a.0", "0", "0.a", "from", "a.from", "a,from", ",", ".", "a,", "a.", "\xff", "é", " ", "a b", xs(64), xs(65), xs(api.MaxText), xs(api.MaxText + 1), strings.Join(names(64), ","), strings.Join(names(65), ","), "it's", "\x00", "a,b.c", "a\n"}
	for kind := range int(api.StepCount) + 3 {
		for _, s := range texts {
			for _, n := range []int64{0, 1, 2, 3, 63, 64, 65, -1, math.MaxInt64, math.MinInt64, 1 << 32, 1<<32 + 2} {
				x := api.Step{Kind: api.StepKind(kind), Text: s, N: n}
				want, right := saidTakes(x)
				if !right {
					want = 0
				}
				if got, is := parse.Takes(x); got != want || is != right {
					t.Errorf("Takes(%s): %d, %v, not %d, %v", show(x), got, is, want, right)
				}
			}
		}
	}
}

// 10.2: expressions that have what they take, and leave one.
func TestRight(t *testing.T) {
	a, add, not := path("a"), step(api.StepAdd), step(api.StepNot)
	for _, l := range [][]api.Step{{a}, {a, not}, {a, a, add}, {a, a, a, add, add}, {a, a, add, a, add}, {list(0)}, {a, list(1)}, {a, a, list(2)}, {structOf(0, "")}, {a, a, structOf(2, "a,b")}, {list(0), list(0), list(2), not}} {
		if !parse.Right(l) {
			t.Errorf("Right(%s)", show(l))
		}
	}
	for _, l := range [][]api.Step{nil, {}, {not}, {add}, {a, add}, {a, a}, {a, a, a, add}, {a, add, a}, {add, a, a}, {a, a, add, add}, {not, a}, {list(1)}, {a, list(2)}, {a, a, list(1)}, {a, list(0)}, {a, structOf(2, "a,b")}, {structOf(1, "a"), a}, {a, a, add, a}} {
		if parse.Right(l) {
			t.Errorf("Right(%s)", show(l))
		}
	}
	for n := range 300 {
		var nots, sums []api.Step
		for range n {
			nots = append(nots, not)
			sums = append(sums, a, add)
		}
		nots = append([]api.Step{a}, nots...)
		sums = append([]api.Step{a}, sums...)
		if parse.Right(nots) != (len(nots) <= api.MaxExpr) || parse.Right(sums) != (len(sums) <= api.MaxExpr) {
			t.Errorf("Right of %d, %d steps", len(nots), len(sums))
		}
	}
	if parse.Right(make([]api.Step, 1<<20)) {
		t.Error("Right of a great many")
	}
}

// 10.2: all short rows of steps.
func TestRightAsSaid(t *testing.T) {
	kinds := steps(whole(1), path("a"), step(api.StepNeg), step(api.StepAnd), list(0), list(2), structOf(1, "a"), structOf(3, "a,b,c"), structOf(1, "a,b"))
	var all func(l []api.Step, more int)
	all = func(l []api.Step, more int) {
		if parse.Right(l) != isRight(l) || parse.Closed(l) != isClosed(l) {
			t.Fatalf("Right(%s): %v, Closed: %v", show(l), parse.Right(l), parse.Closed(l))
		}
		if s, why := parse.Show(l); isRight(l) {
			if want, _ := saidShow(l); s != want || why != api.OK {
				t.Fatalf("Show(%s): %s, error %d, not %s", show(l), show(s), why, show(want))
			}
		} else if s != "" || why != api.ErrSyntax {
			t.Fatalf("Show(%s): %s, error %d", show(l), show(s), why)
		}
		if more > 0 {
			for _, s := range kinds {
				all(append(l[:len(l):len(l)], s), more-1)
			}
		}
	}
	all(nil, 5)
}

// 10.2: what has no path is closed, right or not.
func TestClosed(t *testing.T) {
	for _, l := range [][]api.Step{nil, {}, {whole(1)}, {step(api.StepAdd)}, {text("a")}, {{}}, {step(255)}, {{Text: "a"}}, {whole(1), whole(1)}, make([]api.Step, 1000)} {
		if !parse.Closed(l) {
			t.Errorf("Closed(%s)", show(l))
		}
	}
	for _, l := range [][]api.Step{{path("a")}, {path("")}, {path("from")}, {whole(1), path("a"), step(api.StepAdd)}, {path("a"), whole(1)}, {{}, {Kind: api.StepPath, N: 1}}, append(make([]api.Step, 1000), path("a"))} {
		if parse.Closed(l) {
			t.Errorf("Closed(%s)", show(l))
		}
	}
}

// checked fails, unless Check and Print tell whether a statement is right, and what its text is.
func checked(t *testing.T, x api.Stmt, right bool) {
	t.Helper()
	why := parse.Check(x)
	s, no := parse.Print(x)
	if right && (why != api.OK || no != api.OK || s != saidPrint(x)) {
		t.Errorf("Check(%s): error %d; Print: %s, error %d, not %s", show(x), why, show(s), no, show(saidPrint(x)))
	}
	if !right && (why != api.ErrSyntax || no != api.ErrSyntax || s != "") {
		t.Errorf("Check(%s): error %d; Print: %s, error %d", show(x), why, show(s), no)
	}
	if right != isRightStmt(x) {
		t.Errorf("the test's words of %s: %v", show(x), !right)
	}
}

// 10.2: each field of statements of each kind: which may be there, and which must.
func TestFields(t *testing.T) {
	one := steps(whole(1))
	items := []api.Item{{Name: "a", Expr: one}}
	for kind := range int(api.StmtCount) + 2 {
		for bits := range 64 {
			x := api.Stmt{Kind: api.StmtKind(kind)}
			if bits&1 > 0 {
				x.Table = "t"
			}
			if bits&2 > 0 {
				x.Field = "f"
			}
			if bits&4 > 0 {
				x.Items = items
			}
			if bits&8 > 0 {
				x.Expr = one
			}
			x.History, x.Desc = bits&16 > 0, bits&32 > 0
			checked(t, x, isRightStmt(x))
			// P1: nil and empty lists are alike.
			if bits&12 == 0 {
				x.Items, x.Expr = []api.Item{}, make([]api.Step, 0, 3)
				checked(t, x, isRightStmt(x))
			}
		}
	}
	checked(t, api.Stmt{Kind: 255, Table: "t"}, false)
	checked(t, api.Stmt{}, false)
	checked(t, api.Stmt{Kind: api.StmtSelect, Table: "t", Desc: true}, false)
	checked(t, api.Stmt{Kind: api.StmtUpdate, Table: "t"}, false)
	checked(t, api.Stmt{Kind: api.StmtInsert, Table: "t"}, false)
	checked(t, api.Stmt{Kind: api.StmtIndex, Table: "t"}, false)
	for _, x := range statements() {
		checked(t, x, true)
		x.Kind = api.StmtCount
		checked(t, x, false)
		x.Kind = api.StmtNone
		checked(t, x, false)
	}
}

// 10.2: names of tables, fields and items.
func TestNamesOfStatements(t *testing.T) {
	good := []string{"a", "Z", "_", "a_1", "selects", xs(64)}
	wrong := []string{"", " ", "1", "1a", "a b", " a", "a ", "a.b", "a,b", "é", "\xff", "'a'", "from", "FROM", "Select", "history", xs(65), xs(1 << 16), "*", "a\x00", "a\n"}
	for i, name := range append(good, wrong...) {
		is := i < len(good)
		one := []api.Item{{Name: "b", Expr: steps(whole(1))}, {Name: name, Expr: steps(whole(1))}}
		for kind := api.StmtTable; kind < api.StmtCount; kind++ {
			x := api.Stmt{Kind: kind, Table: name}
			if kind == api.StmtIndex {
				x.Field = "f"
			}
			if kind == api.StmtInsert {
				x.Expr = steps(whole(1))
			}
			if kind == api.StmtUpdate {
				x.Items = one[:1]
			}
			checked(t, x, is)
		}
		checked(t, api.Stmt{Kind: api.StmtIndex, Table: "t", Field: name}, is)
		checked(t, api.Stmt{Kind: api.StmtSelect, Table: "t", Field: name}, is || name == "")
		checked(t, api.Stmt{Kind: api.StmtSelect, Table: "t", Field: name, Desc: true}, is)
		checked(t, api.Stmt{Kind: api.StmtUpdate, Table: "t", Items: one}, is)
		checked(t, api.Stmt{Kind: api.StmtUpdate, Table: "t", Items: one[1:]}, is)
		checked(t, api.Stmt{Kind: api.StmtSelect, Table: "t", Items: one}, is)
		checked(t, api.Stmt{Kind: api.StmtSelect, Table: "t", Items: append(one, one[1])}, false)
		checked(t, api.Stmt{Kind: api.StmtUpdate, Table: "t", Items: append(one, one[0])}, false)
	}
}

// 10.2: Items at MaxParts and one more, and their expressions.
func TestItemsOfStatements(t *testing.T) {
	made := func(n int) []api.Item {
		var out []api.Item
		for _, name := range names(n) {
			out = append(out, api.Item{Name: name, Expr: steps(path(name))})
		}
		return out
	}
	for _, kind := range []api.StmtKind{api.StmtUpdate, api.StmtSelect} {
		for _, n := range []int{1, 2, 63, 64, 65, 66, 1000} {
			checked(t, api.Stmt{Kind: kind, Table: "t", Items: made(n)}, n <= api.MaxParts)
		}
		for _, l := range [][]api.Step{nil, {}, {step(api.StepNot)}, {whole(1), whole(2)}, {whole(-1)}, make([]api.Step, 129)} {
			items := made(3)
			items[2].Expr = l
			checked(t, api.Stmt{Kind: kind, Table: "t", Items: items}, false)
			checked(t, api.Stmt{Kind: kind, Table: "t", Items: made(3), Expr: l}, len(l) == 0)
		}
		items := made(64)
		items[63].Name = "n0"
		checked(t, api.Stmt{Kind: kind, Table: "t", Items: items}, false)
		items[63].Name = "N0"
		checked(t, api.Stmt{Kind: kind, Table: "t", Items: items}, true)
	}
}

// 10.2: what an INSERT puts is right and closed.
func TestInsertOfStatements(t *testing.T) {
	for _, l := range [][]api.Step{{whole(1)}, {structOf(0, "")}, {whole(1), text("a"), structOf(2, "a,b")}} {
		checked(t, api.Stmt{Kind: api.StmtInsert, Table: "t", Expr: l}, true)
		checked(t, api.Stmt{Kind: api.StmtInsert, Table: "t", Expr: append(l[:len(l):len(l)], path("a"), list(2))}, false)
		checked(t, api.Stmt{Kind: api.StmtDelete, Table: "t", Expr: append(l[:len(l):len(l)], path("a"), list(2))}, true)
	}
	checked(t, api.Stmt{Kind: api.StmtInsert, Table: "t", Expr: steps(path("a"))}, false)
	checked(t, api.Stmt{Kind: api.StmtInsert, Table: "t", Expr: steps(whole(1), whole(2))}, false)
}

// 10.2: any right statements, and these with something changed.
func TestAnyStatements(t *testing.T) {
	m := &maker{Rand: rand.New(rand.NewSource(103))}
	wrong := wrongSteps()
	met := map[bool]int{}
	for range 5000 {
		x := m.rightStmt(40, 12)
		checked(t, x, true)
		y := twin(x)
		switch m.Intn(8) {
		case 0:
			y.Kind = api.StmtKind(m.Intn(8))
		case 1:
			y.Table, y.Field = y.Field, y.Table
		case 2:
			y.History, y.Desc = m.Intn(2) == 0, m.Intn(2) == 0
		case 3:
			y.Expr = append(y.Expr, m.leaf(false))
		case 4:
			if len(y.Items) > 0 {
				y.Items[m.Intn(len(y.Items))].Name = pick(m, "a0", "b1", "", "from")
			}
		case 5:
			if len(y.Items) > 0 {
				y.Items = append(y.Items, y.Items[0])
			}
		case 6:
			if n := len(y.Expr); n > 0 {
				y.Expr[m.Intn(n)] = pick(m, append(wrong, m.leaf(true), step(api.StepNot), step(api.StepOr))...)
			}
		case 7:
			if n := len(y.Expr); n > 0 {
				i := m.Intn(n)
				y.Expr = slices.Delete(y.Expr, i, i+1)
			}
		}
		met[isRightStmt(y)]++
		checked(t, y, isRightStmt(y))
		if t.Failed() {
			return
		}
	}
	if met[true] < 100 || met[false] < 100 {
		t.Error(fmt.Sprint("met: ", met))
	}
}
