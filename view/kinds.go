package view

import (
	"slices"
	"strings"

	"codicil/api"
	"codicil/plan"
	"codicil/value"
)

func (w *work) createTable() {
	w.burn()
	w.add(api.Rev{Kind: api.RevTable})
}

func (w *work) createIndex() {
	w.burn()
	w.add(api.Rev{Kind: api.RevIndex, Value: api.Value{Kind: api.KindText, S: w.plan.Stmt.Field}})
}

func (w *work) insert() {
	w.burn()
	v := w.run(compiled(w.plan.Stmt.Expr), api.Value{Kind: api.KindStruct})
	if v.Kind != api.KindStruct {
		panic(api.ErrType)
	}
	w.add(api.Rev{Kind: api.RevPut, Doc: w.now.Last + 1, Value: v})
}

func (w *work) update() {
	items := programs(w.plan.Stmt.Items)
	w.each(func(r api.Row, old api.Value) {
		v := old
		for _, i := range items {
			next, why := value.Put(v, i.name, w.run(i.program, old))
			must(why)
			v = next
		}
		w.add(api.Rev{Kind: api.RevPut, Doc: r.Doc, Version: r.Version + 1, Value: v})
	})
}

func (w *work) remove() {
	w.each(func(r api.Row, _ api.Value) {
		w.add(api.Rev{Kind: api.RevDrop, Doc: r.Doc, Version: r.Version + 1})
	})
}

func (w *work) choose() {
	x := w.plan.Stmt
	items := programs(x.Items)
	w.each(func(_ api.Row, v api.Value) {
		if len(items) > 0 {
			v = w.chosen(items, v)
		}
		must(value.Check(v))
		if len(w.rows) == api.MaxRows {
			panic(api.ErrMany)
		}
		w.rows = append(w.rows, v)
	})
	if x.Field != "" {
		sortRows(w.rows, x.Field, x.Desc)
	}
}

// each hands over the rows of which the condition holds, one by one, with their values.
func (w *work) each(do func(r api.Row, v api.Value)) {
	rows, why := plan.Rows(w.plan, w.now)
	must(why)
	condition := compiled(w.plan.Stmt.Expr)
	for _, r := range rows {
		w.burn()
		v := r.Value
		if w.plan.Stmt.History {
			v = version(r)
		}
		if w.holds(condition, v) {
			do(r, v)
		}
	}
}

// version is what a row of HISTORY has.
func version(r api.Row) api.Value {
	return api.Value{Kind: api.KindStruct, Fields: []api.Field{
		field("data", r.Value),
		field("doc", api.Value{Kind: api.KindInt, N: int64(r.Doc)}),
		field("gone", api.Value{Kind: api.KindBool, B: r.Gone}),
		field("version", api.Value{Kind: api.KindInt, N: int64(r.Version)}),
	}}
}

// field is a value under a name, which many rows have, each in memory of its own.
func field(name string, v api.Value) api.Field {
	return api.Field{Name: strings.Clone(name), Value: v}
}

// chosen is the struct of what Items come to, of a row's value.
func (w *work) chosen(items []item, v api.Value) api.Value {
	out := api.Value{Kind: api.KindStruct}
	for _, i := range items {
		out.Fields = append(out.Fields, field(i.name, w.run(i.program, v)))
	}
	slices.SortFunc(out.Fields, func(a, b api.Field) int { return strings.Compare(a.Name, b.Name) })
	return out
}

// item is an Item whose expression is a program.
type item struct {
	name    string
	program []api.Instr
}

func programs(l []api.Item) []item {
	var out []item
	for _, i := range l {
		out = append(out, item{name: i.Name, program: compiled(i.Expr)})
	}
	return out
}

// sortRows sorts rows by a field; those alike stay in their order, whichever end is first.
func sortRows(rows []api.Value, name string, greatestFirst bool) {
	key := func(v api.Value) api.Value {
		for _, f := range v.Fields {
			if f.Name == name {
				return f.Value
			}
		}
		return api.Value{}
	}
	slices.SortStableFunc(rows, func(a, b api.Value) int {
		if greatestFirst {
			a, b = b, a
		}
		return value.Compare(key(a), key(b))
	})
}
