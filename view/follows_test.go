package view_test

import (
	"runtime"
	"slices"
	"testing"

	"codicil/api"
	"codicil/expr"
	"codicil/parse"
	"codicil/table"
	"codicil/value"
	"codicil/view"
)

// rowsOf are a statement's documents, or their versions, each as its expressions take it; no index helps.
func rowsOf(x api.Stmt, s api.State) ([]api.Row, []api.Value) {
	var values []api.Value
	if !x.History {
		rows, _ := table.Current(s, x.Table)
		for _, r := range rows {
			values = append(values, r.Value)
		}
		return rows, values
	}
	rows, _ := table.History(s, x.Table, s.Seq)
	for _, r := range rows {
		values = append(values, doc("data", r.Value, "doc", number(int64(r.Doc)), "gone", flag(r.Gone), "version", number(int64(r.Version))))
	}
	return rows, values
}

// evaluated is what Items come to, of a value, each under its name, and the first error.
func evaluated(l []api.Item, v, into api.Value) (api.Value, api.Errno) {
	for _, i := range l {
		part, why := expr.Eval(i.Expr, v)
		if why != api.OK {
			return api.Value{}, why
		}
		into, _ = value.Put(into, i.Name, part)
	}
	return into, api.OK
}

// 15.4, P6: a SELECT's rows are what its condition and Items come to by expr, document by document, index or not.
func TestSelectAsExpressions(t *testing.T) {
	m := newMaker(154)
	met := map[api.Errno]int{}
	follow(t, m, func(v api.View, x api.Stmt, text string, got answer) {
		if x.Kind != api.StmtSelect {
			return
		}
		now, _ := view.Now(v)
		_, values := rowsOf(x, now)
		var want []api.Value
		for _, row := range values {
			is, why := expr.Holds(x.Expr, row)
			if is && len(x.Items) > 0 {
				row, why = evaluated(x.Items, row, doc())
			}
			if why == api.OK && is {
				why = value.Check(row)
			}
			if why != api.OK {
				met[why]++
				if got.Why != why {
					t.Fatalf("%s over %s: error %d, not %d", text, show(now), got.Why, why)
				}
				return
			}
			if is {
				want = append(want, row)
			}
		}
		met[api.OK]++
		if x.Field != "" {
			key := func(v api.Value) api.Value {
				out, _ := value.Get(v, []string{x.Field})
				return out
			}
			slices.SortStableFunc(want, func(a, b api.Value) int {
				if x.Desc {
					return -value.Compare(key(a), key(b))
				}
				return value.Compare(key(a), key(b))
			})
		}
		if got.Why != api.OK || !same(got.Result.Rows, want) || got.Result.Count != 0 {
			t.Fatalf("%s over %s: %s, error %d, not %s", text, show(now), show(got.Result), got.Why, show(want))
		}
	})
	if met[api.OK] < 200 || met[api.ErrType] < 20 {
		t.Errorf("met %v", met)
	}
}

// 15.4: UPDATE and DELETE change just the documents of which the condition holds.
func TestChangesAsExpressions(t *testing.T) {
	m := newMaker(155)
	changed, kept := 0, 0
	follow(t, m, func(v api.View, x api.Stmt, text string, got answer) {
		if got.Why != api.OK || x.Kind != api.StmtUpdate && x.Kind != api.StmtDelete {
			return
		}
		now, _ := view.Now(v)
		then, _ := view.Now(got.View)
		rows, values := rowsOf(x, now)
		var want []api.Row
		count := 0
		for i, r := range rows {
			is, why := expr.Holds(x.Expr, values[i])
			if why != api.OK {
				t.Fatalf("%s over %s: error %d of document %d", text, show(now), why, r.Doc)
			}
			if !is {
				kept++
				want = append(want, r)
				continue
			}
			count++
			changed++
			if x.Kind == api.StmtUpdate {
				r.Value, _ = evaluated(x.Items, values[i], values[i])
				r.Version, r.Seq = r.Version+1, v.Base.Seq+1
				want = append(want, r)
			}
		}
		if current, _ := table.Current(then, x.Table); !same(current, want) || got.Result.Count != count || len(got.Result.Rows) > 0 {
			t.Fatalf("%s over %s: %s, %v, not %s", text, show(now), show(current), got.Result, show(want))
		}
		for _, other := range now.Tables {
			a, _ := table.Current(now, other.Name)
			b, _ := table.Current(then, other.Name)
			if other.Name != x.Table && !same(a, b) {
				t.Fatalf("%s changed %s", text, other.Name)
			}
		}
	})
	if changed < 200 || kept < 200 {
		t.Errorf("%d changed, %d kept", changed, kept)
	}
}

// 15.4, P6: with indexes and without the same comes, but for what it takes and hangs on.
func TestIndexOrNot(t *testing.T) {
	m := newMaker(156)
	keys := 0
	follow(t, m, func(v api.View, x api.Stmt, text string, got answer) {
		if x.Kind == api.StmtIndex {
			return
		}
		bare := twin(v)
		for i := range bare.Base.Tables {
			bare.Base.Tables[i].Indexes = nil
		}
		bare.Revs = slices.DeleteFunc(bare.Revs, func(r api.Rev) bool { return r.Kind == api.RevIndex })
		without := exec(bare, text, api.MaxFuel)
		if len(got.Reads) > 0 && !got.Reads[0].All {
			keys++
		}
		count := got.Result.Count
		if without.Why != got.Why || !same(without.Result.Rows, got.Result.Rows) || without.Result.Count != count ||
			count > 0 && !same(without.View.Revs[len(bare.Revs):], got.View.Revs[len(v.Revs):]) {
			t.Fatalf("%s: %s, without indexes %s", text, show(got), show(without))
		}
	})
	if keys < 50 {
		t.Errorf("%d keys", keys)
	}
}

// 15.5: what has an error changes nothing: what comes behind it is as without it.
func TestRefusedChangesNothing(t *testing.T) {
	m := newMaker(157)
	refused := 0
	follow(t, m, func(v api.View, x api.Stmt, text string, got answer) {
		for _, fuel := range []int{0, 1, 5, m.Intn(50), api.MaxFuel} {
			got := exec(v, text, fuel)
			if got.Why == api.OK {
				continue
			}
			refused++
			if !same(got.View, v) || !same(got.Result, api.Result{}) {
				t.Fatalf("%s with %d: error %d, %s", text, fuel, got.Why, show(got))
			}
			if next := m.statement(); !same(exec(v, next, api.MaxFuel), exec(got.View, next, api.MaxFuel)) {
				t.Fatalf("%s, then %s", text, next)
			}
		}
	})
	if refused < 200 {
		t.Errorf("%d refused", refused)
	}
}

// 15.6: with more fuel a statement that had enough does the same, and leaves as much more; with less it is ErrFuel.
func TestMoreFuel(t *testing.T) {
	m := newMaker(158)
	enough := 0
	follow(t, m, func(v api.View, x api.Stmt, text string, got answer) {
		if got.Why != api.OK {
			return
		}
		used := api.MaxFuel - got.Result.Left
		for fuel := range used + 3 {
			if fuel < used-5 && fuel > 5 && m.Intn(8) > 0 {
				continue
			}
			want := got
			want.Result.Left = fuel - used
			if fuel < used {
				want = answer{View: v, Reads: []api.Read{{Table: x.Table, All: true}}, Why: api.ErrFuel}
			}
			enough++
			if a := exec(v, text, fuel); !same(a, want) {
				t.Fatalf("%s with %d of %d: %s, not %s", text, fuel, used, show(a), show(want))
			}
		}
	})
	if enough < 2000 {
		t.Errorf("%d", enough)
	}
}

// follow does statements of chance one behind the other, and hands over each that is one: what was there, the statement, what came.
func follow(t *testing.T, m *maker, see func(v api.View, x api.Stmt, text string, got answer)) {
	t.Helper()
	for range 80 {
		v := doesAll(t, api.View{}, "CREATE TABLE t", "CREATE TABLE u", "CREATE INDEX ON t (a)")
		for range 40 {
			text := m.statement()
			got := exec(v, text, api.MaxFuel)
			x, why, _ := parse.Parse(text)
			known := slices.ContainsFunc(mustNow(t, v).Tables, func(y api.Table) bool { return y.Name == x.Table })
			if why == api.OK && known {
				see(v, x, text, got)
			}
			if got.Why == api.OK {
				v = m.fold(got.View)
			}
		}
	}
}

// mustNow is what is there now.
func mustNow(t *testing.T, v api.View) api.State {
	t.Helper()
	s, why := view.Now(v)
	if why != api.OK {
		t.Fatalf("Now(%s): error %d", show(v), why)
	}
	return s
}

// P4: no goroutine is left.
func TestNoGoroutineLeft(t *testing.T) {
	ahead := runtime.NumGoroutine()
	follow(t, newMaker(159), func(v api.View, x api.Stmt, text string, got answer) { exec(v, text, 3) })
	if now := runtime.NumGoroutine(); now > ahead {
		t.Errorf("%d goroutines, ahead of it %d", now, ahead)
	}
}
