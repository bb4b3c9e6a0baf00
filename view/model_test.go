package view_test

import (
	"sort"

	"codicil/api"
	"codicil/code"
	"codicil/parse"
	"codicil/plan"
	"codicil/table"
	"codicil/value"
	"codicil/vm"
)

// What follows are the chapter's words to the letter, by other means than the package's.

// saidNow is what is there now, and whether the view is right.
func saidNow(v api.View) (api.State, bool) {
	if table.Check(v.Base) != api.OK || v.Base.Seq >= 1<<62 || len(v.Revs) > 64 {
		return api.State{}, false
	}
	now, why := done(v.Base, v.Base.Seq+1, v.Revs)
	return now, why == api.OK
}

// done is the state behind revisions.
func done(s api.State, seq uint64, revs []api.Rev) (api.State, api.Errno) {
	if len(revs) == 0 {
		return s, api.OK
	}
	next, why := table.Do(s, seq, revs[0])
	if why != api.OK {
		return api.State{}, why
	}
	return done(next, seq, revs[1:])
}

// said is Exec of anything.
func said(v api.View, text string, fuel int) answer {
	now, is := saidNow(v)
	if !is {
		return answer{Why: api.ErrState}
	}
	if fuel < 0 || fuel > 65536 {
		return answer{Why: api.ErrRange}
	}
	x, why, _ := parse.Parse(text)
	if why != api.OK {
		return answer{View: v, Why: why}
	}
	refused := func(why api.Errno) answer {
		return answer{View: v, Reads: []api.Read{{Table: x.Table, All: true}}, Why: why}
	}
	p, why := plan.Make(x, now)
	if why != api.OK {
		return refused(why)
	}
	rows, revs, left, why := saidWork(p, now, fuel)
	if why != api.OK {
		return refused(why)
	}
	l := append(append([]api.Rev{}, v.Revs...), revs...)
	if len(l) > 64 {
		return refused(api.ErrFull)
	}
	if _, why := done(now, v.Base.Seq+1, revs); why != api.OK {
		return refused(why)
	}
	out := answer{View: api.View{Base: v.Base, Revs: l}, Result: api.Result{Rows: rows, Count: len(revs), Left: left}}
	if x.Kind == api.StmtUpdate || x.Kind == api.StmtDelete || x.Kind == api.StmtSelect {
		out.Reads = []api.Read{{Table: x.Table, All: !p.HasKey, Field: p.Index, Key: p.Key}}
	}
	return out
}

// saidWork are the rows and the revisions of a statement, and the fuel that is left.
func saidWork(p api.Plan, now api.State, fuel int) ([]api.Value, []api.Rev, int, api.Errno) {
	x := p.Stmt
	if x.Kind < api.StmtUpdate && fuel == 0 {
		return nil, nil, 0, api.ErrFuel
	}
	switch x.Kind {
	case api.StmtTable:
		return nil, []api.Rev{{Kind: api.RevTable, Table: x.Table}}, fuel - 1, api.OK
	case api.StmtIndex:
		return nil, []api.Rev{{Kind: api.RevIndex, Table: x.Table, Value: api.Value{Kind: api.KindText, S: x.Field}}}, fuel - 1, api.OK
	case api.StmtInsert:
		v, left, why := ran(x.Expr, api.Value{Kind: api.KindStruct}, fuel-1)
		if why == api.OK && v.Kind != api.KindStruct {
			why = api.ErrType
		}
		return nil, []api.Rev{{Kind: api.RevPut, Table: x.Table, Doc: now.Last + 1, Value: v}}, left, why
	}
	l, why := plan.Rows(p, now)
	if why != api.OK {
		return nil, nil, 0, why
	}
	return saidRows(x, l, fuel)
}

// ran is what an expression comes to by its program.
func ran(l []api.Step, v api.Value, fuel int) (api.Value, int, api.Errno) {
	p, why := code.Compile(l)
	if why != api.OK {
		return api.Value{}, 0, why
	}
	return vm.Run(p, v, fuel)
}

// held tells whether a condition holds by its program.
func held(l []api.Step, v api.Value, fuel int) (bool, int, api.Errno) {
	if len(l) == 0 {
		return true, fuel, api.OK
	}
	p, why := code.Compile(l)
	if why != api.OK {
		return false, 0, why
	}
	return vm.Holds(p, v, fuel)
}

// saidRows is what SELECT, UPDATE, DELETE make of rows, one by one.
func saidRows(x api.Stmt, l []api.Row, fuel int) (rows []api.Value, revs []api.Rev, left int, why api.Errno) {
	for _, r := range l {
		if fuel == 0 {
			return nil, nil, 0, api.ErrFuel
		}
		v := r.Value
		if x.History {
			v = historic(r)
		}
		is := false
		if is, fuel, why = held(x.Expr, v, fuel-1); why != api.OK {
			return nil, nil, 0, why
		}
		if !is {
			continue
		}
		var out []api.Value
		for _, i := range x.Items {
			part := api.Value{}
			if part, fuel, why = ran(i.Expr, v, fuel); why != api.OK {
				return nil, nil, 0, why
			}
			out = append(out, part)
		}
		switch x.Kind {
		case api.StmtSelect:
			row, why := saidRow(x, v, out)
			if why == api.OK && len(rows) == 256 {
				why = api.ErrMany
			}
			if why != api.OK {
				return nil, nil, 0, why
			}
			rows = append(rows, row)
		case api.StmtUpdate:
			for i := range out {
				v, _ = value.Put(v, x.Items[i].Name, out[i])
			}
			revs = append(revs, api.Rev{Kind: api.RevPut, Table: x.Table, Doc: r.Doc, Version: r.Version + 1, Value: v})
		case api.StmtDelete:
			revs = append(revs, api.Rev{Kind: api.RevDrop, Table: x.Table, Doc: r.Doc, Version: r.Version + 1})
		}
	}
	return inOrder(x, rows), revs, fuel, api.OK
}

// historic is what a row of HISTORY has.
func historic(r api.Row) api.Value {
	v := api.Value{Kind: api.KindStruct}
	v, _ = value.Put(v, "version", api.Value{Kind: api.KindInt, N: int64(r.Version)})
	v, _ = value.Put(v, "gone", api.Value{Kind: api.KindBool, B: r.Gone})
	v, _ = value.Put(v, "data", r.Value)
	v, _ = value.Put(v, "doc", api.Value{Kind: api.KindInt, N: int64(r.Doc)})
	return v
}

// saidRow is a SELECT's row, of a row's value and what the Items come to.
func saidRow(x api.Stmt, v api.Value, parts []api.Value) (api.Value, api.Errno) {
	if len(x.Items) > 0 {
		v = api.Value{Kind: api.KindStruct}
		for i, part := range parts {
			v, _ = value.Put(v, x.Items[i].Name, part)
		}
	}
	return v, value.Check(v)
}

// inOrder are a SELECT's rows as ORDER BY says.
func inOrder(x api.Stmt, rows []api.Value) []api.Value {
	if x.Field == "" {
		return rows
	}
	at := func(i int) api.Value {
		key, _ := value.Get(rows[i], []string{x.Field})
		return key
	}
	places := make([]int, len(rows))
	for i := range places {
		places[i] = i
	}
	sort.Slice(places, func(i, j int) bool {
		a, b := places[i], places[j]
		c := value.Compare(at(a), at(b))
		if x.Desc {
			c = -c
		}
		return c < 0 || c == 0 && a < b
	})
	var out []api.Value
	for _, i := range places {
		out = append(out, rows[i])
	}
	return out
}
