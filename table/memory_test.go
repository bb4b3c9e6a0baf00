package table_test

import (
	"math/rand"
	"reflect"
	"runtime"
	"slices"
	"testing"

	"codicil/api"
	"codicil/table"
)

// 8.4: answers are new memory, in all their lists.
func TestNewMemory(t *testing.T) {
	r := rand.New(rand.NewSource(86))
	for i := range 300 {
		s := anyState(r)
		if i == 0 {
			s = small()
		}
		rev := anyRev(r, s)
		one, why := table.Do(s, s.Seq+1, rev)
		two, _ := table.Do(s, s.Seq+1, rev)
		apart(t, one, s, rev, two)
		if why == api.OK {
			b := block(t, s.Seq+1, rev, tableRev("other"))
			one, _ := table.Apply(s, b)
			two, _ := table.Apply(s, b)
			apart(t, one, s, b, two)
		}
		for _, x := range s.Tables {
			rows, _ := table.Current(s, x.Name)
			again, _ := table.Current(s, x.Name)
			apart(t, rows, s, again)
			rows, _ = table.History(s, x.Name, 4)
			again, _ = table.History(s, x.Name, 4)
			apart(t, rows, s, again)
			for _, field := range x.Indexes {
				low, high := from(whole(0)), from(list())
				ids, _ := table.Lookup(s, x.Name, field, low, high)
				more, _ := table.Lookup(s, x.Name, field, low, high)
				apart(t, ids, s, low, high, more)
			}
		}
	}
}

// Each kind of revision, done: its table's name, its field's, its value are not kept.
func TestDoKeepsNothing(t *testing.T) {
	for _, r := range []api.Rev{
		tableRev("new"), indexRev("t", "new"), putRev("t", 10, 0, doc("name", list(text("part")))),
		putRev("t", 1, 2, doc("name", doc("inner", text("part")))), dropRev("t", 1, 2),
	} {
		s := small()
		one, why := table.Do(s, 6, r)
		two, no := table.Apply(s, block(t, 6, r))
		if why != api.OK || no != api.OK {
			t.Fatalf("Do(%v): errors %d, %d", r, why, no)
		}
		apart(t, one, s, r, two)
		apart(t, two, s, r)
	}
	name, spoilName := lent("new")
	s, _ := table.Do(small(), 6, tableRev(name))
	field, spoilField := lent("field")
	s, _ = table.Do(s, 6, indexRev("new", field))
	word, spoilWord := lent("word")
	v := doc("w", list(text(word)))
	s, _ = table.Do(s, 6, putRev("new", 10, 0, v))
	spoilName()
	spoilField()
	spoilWord()
	v.Fields[0].Value.List[0] = whole(1)
	want := small()
	want.Seq, want.Last = 6, 10
	want.Tables = append(want.Tables, api.Table{Name: "new", Indexes: []string{"field"}, Docs: []api.Doc{{Id: 10, Versions: []api.Version{{Seq: 6, Value: doc("w", list(text("word")))}}}}})
	if !sameState(s, want) {
		t.Errorf("%s", show(s))
	}
}

// 8.4: what is handed in stays as it was, and room behind a list is not written to.
func TestLeavesItsArguments(t *testing.T) {
	r := rand.New(rand.NewSource(87))
	for range 300 {
		s := roomy(anyState(r))
		ahead := twinAll(s)
		rev := anyRev(r, s)
		table.Check(s)
		table.Do(s, s.Seq+1, rev)
		table.Apply(s, block(t, s.Seq+1, rev))
		for _, x := range s.Tables {
			table.Current(s, x.Name)
			table.History(s, x.Name, 5)
			for _, field := range x.Indexes {
				table.Lookup(s, x.Name, field, from(whole(0)), api.Bound{})
			}
		}
		if !reflect.DeepEqual(twinAll(s), ahead) {
			t.Fatalf("%v became %v", ahead, twinAll(s))
		}
	}
}

// roomy is a state whose lists have room behind them.
func roomy(s api.State) api.State {
	s.Tables = append(make([]api.Table, 0, len(s.Tables)+3), s.Tables...)
	for i := range s.Tables {
		t := &s.Tables[i]
		t.Indexes = append(make([]string, 0, len(t.Indexes)+3), t.Indexes...)
		t.Docs = append(make([]api.Doc, 0, len(t.Docs)+3), t.Docs...)
		for j := range t.Docs {
			d := &t.Docs[j]
			d.Versions = append(make([]api.Version, 0, len(d.Versions)+3), d.Versions...)
		}
	}
	return s
}

// twinAll is a copy of a state's lists up to the end of their room.
func twinAll(s api.State) api.State {
	s.Tables = s.Tables[:cap(s.Tables)]
	out := twin(s)
	for i, t := range s.Tables {
		out.Tables[i].Indexes = append([]string{}, t.Indexes[:cap(t.Indexes)]...)
		all := api.State{Tables: []api.Table{{Docs: t.Docs[:cap(t.Docs)]}}}
		out.Tables[i].Docs = twin(all).Tables[0].Docs
		for j, d := range t.Docs {
			out.Tables[i].Docs[j].Versions = append([]api.Version{}, d.Versions[:cap(d.Versions)]...)
		}
	}
	return out
}

// What is done with an answer is nothing to a later one.
func TestAnswersAlike(t *testing.T) {
	s := small()
	for range 3 {
		x, _ := table.Do(s, 6, putRev("t", 1, 2, doc("a", whole(4))))
		x.Tables[0].Docs[0].Versions[0].Value.Fields[0].Value = whole(0)
		x.Tables[0].Indexes[0] = "z"
		x.Tables[0].Docs[1] = api.Doc{}
		x.Tables[1] = api.Table{}
		rows, _ := table.Current(s, "t")
		rows[0].Value.Fields[0] = api.Field{}
		rows[1] = api.Row{}
		ids, _ := table.Lookup(s, "t", "a", api.Bound{}, api.Bound{})
		if !slices.Equal(ids, []uint64{6, 1, 7}) {
			t.Fatalf("Lookup: %v", ids)
		}
		ids[0] = 99
		if !sameState(s, small()) {
			t.Fatalf("%s", show(s))
		}
	}
}

func TestLeavesNoGoroutine(t *testing.T) {
	before := runtime.NumGoroutine()
	s := small()
	table.Do(s, 6, tableRev("new"))
	table.Do(s, 6, tableRev("t"))
	table.Apply(s, block(t, 6, tableRev("new"), indexRev("new", "a")))
	table.Current(s, "t")
	table.History(s, "t", 4)
	table.Lookup(s, "t", "a", api.Bound{}, api.Bound{})
	table.Lookup(s, "t", "a", from(text("\xff")), api.Bound{})
	if now := runtime.NumGoroutine(); now > before {
		t.Errorf("%d goroutines, %d ahead", now, before)
	}
}
