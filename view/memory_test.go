package view_test

import (
	"testing"

	"codicil/api"
	"codicil/view"
)

// 15.3: answers are new memory, in all their lists and texts, whatever the error is.
func TestNewMemory(t *testing.T) {
	m := newMaker(153)
	texts := []string{
		"CREATE TABLE name", "CREATE INDEX ON t (name)", "INSERT INTO t {name: 'word', other: ['word', {name: 'word'}]}", "INSERT INTO u {}",
		"UPDATE t SET name = 'word', other = b WHERE a = 1", "UPDATE t SET name = c, other = c", "DELETE FROM t", "DELETE FROM t WHERE a = 'word'",
		"SELECT * FROM t", "SELECT * FROM HISTORY(t) ORDER BY doc DESC", "SELECT b AS name, b AS other, 'word' AS more FROM t WHERE b = 'x'", "SELECT a AS a, c AS c FROM t ORDER BY c",
		"SELECT * FROM t WHERE a < 'x'", "SELECT * FROM name", "no statement", "INSERT INTO t 5", "CREATE TABLE t",
	}
	look := func(v api.View, text string, fuel int) {
		t.Helper()
		got, again := exec(v, text, fuel), exec(v, text, fuel)
		apart(t, got, v, text, again)
		if !same(got, again) {
			t.Fatalf("%s: %s, then %s", text, show(got), show(again))
		}
		now, _ := view.Now(v)
		apart(t, now, v, got)
	}
	bare := small()
	bare.Revs = nil
	for _, text := range texts {
		for _, fuel := range []int{-1, 0, 9, api.MaxFuel} {
			look(small(), text, fuel)
			look(bare, text, fuel)
			look(api.View{}, text, fuel)
		}
	}
	for range 60 {
		v := doesAll(t, small(), "CREATE TABLE v")
		for range 20 {
			text := m.statement()
			look(v, text, pick(m, 9, api.MaxFuel))
			v, _, _, _ = view.Exec(v, text, api.MaxFuel)
			v = m.fold(v)
		}
	}
}

// 15.3: nothing of what is handed in is kept.
func TestKeepsNothing(t *testing.T) {
	name, spoilName := lent("word")
	text, spoilText := lent("UPDATE word SET word = 'words', b = word WHERE word = 'word'")
	create, spoilCreate := lent("CREATE INDEX ON word (words)")
	insert, spoilInsert := lent("INSERT INTO word {words: 'words'}")
	choose, spoilChoose := lent("SELECT word AS words, 'words' AS word FROM word WHERE word = 'word'")
	v := api.View{
		Base: api.State{Seq: 1, Last: 1, Tables: []api.Table{{Name: name, Indexes: []string{name}, Docs: []api.Doc{{Id: 1, Versions: []api.Version{{Seq: 1, Value: doc(name, word(name))}}}}}}},
		Revs: []api.Rev{indexRev(name, "b"), putRev(name, 2, 0, doc(name, word(name)))},
	}
	was := twin(v)
	l := []answer{exec(v, text, 99), exec(v, create, 99), exec(v, insert, 99), exec(v, choose, 99), exec(v, choose, 0), exec(v, "no", 0)}
	now, _ := view.Now(v)
	for _, spoil := range []func(){spoilName, spoilText, spoilCreate, spoilInsert, spoilChoose} {
		spoil()
	}
	v.Base.Tables[0].Docs[0].Versions[0].Value.Fields[0].Value = null()
	v.Base.Tables[0].Indexes[0] = "other"
	v.Revs[0], v.Revs[1].Value.Fields[0].Name = api.Rev{}, "other"
	texts := []string{"UPDATE word SET word = 'words', b = word WHERE word = 'word'", "CREATE INDEX ON word (words)", "INSERT INTO word {words: 'words'}", "SELECT word AS words, 'words' AS word FROM word WHERE word = 'word'"}
	for i, text := range texts {
		if want := said(was, text, 99); l[i].Why != api.OK || !same(l[i], want) {
			t.Errorf("kept: %s, not %s", show(l[i]), show(want))
		}
	}
	if !same(l[4], said(was, texts[3], 0)) || !same(l[5], answer{View: was, Why: api.ErrSyntax}) {
		t.Errorf("kept: %s, %s", show(l[4]), show(l[5]))
	}
	if want, _ := saidNow(was); !same(now, want) {
		t.Errorf("kept: %s, not %s", show(now), show(want))
	}
}

// 15.3: room behind lists is not written to.
func TestLeavesRoom(t *testing.T) {
	room := func(v api.View) api.View {
		v = twin(v)
		v.Revs = append(make([]api.Rev, 0, len(v.Revs)+9), v.Revs...)
		v.Base.Tables = append(make([]api.Table, 0, 9), v.Base.Tables...)
		for i := range v.Base.Tables {
			x := &v.Base.Tables[i]
			x.Indexes = append(make([]string, 0, 9), x.Indexes...)
			x.Docs = append(make([]api.Doc, 0, len(x.Docs)+9), x.Docs...)
			for j := range x.Docs {
				x.Docs[j].Versions = append(make([]api.Version, 0, 9), x.Docs[j].Versions...)
			}
		}
		return v
	}
	m := newMaker(152)
	for range 400 {
		v := room(small())
		ahead := twin(v)
		text := m.statement()
		exec(v, text, api.MaxFuel)
		view.Now(v)
		if !same(v, ahead) {
			t.Fatalf("%s changed %s", text, show(v))
		}
		for _, r := range v.Revs[:cap(v.Revs)][len(v.Revs):] {
			if !same(r, api.Rev{}) {
				t.Fatalf("%s wrote %s", text, show(r))
			}
		}
		for _, x := range v.Base.Tables[:9] {
			for _, d := range x.Docs[:cap(x.Docs)] {
				if len(d.Versions) == 0 && d.Id != 0 || len(d.Versions) > 0 && !same(d.Versions[:9][len(d.Versions)], api.Version{}) {
					t.Fatalf("%s wrote %s", text, show(d))
				}
			}
			if x.Indexes != nil && x.Indexes[:9][len(x.Indexes)] != "" {
				t.Fatalf("%s wrote %s", text, show(x.Indexes[:9]))
			}
		}
	}
}

// P3: what comes hangs on the arguments alone: nil and empty lists are alike, and so is the room behind them.
func TestEmptyLists(t *testing.T) {
	v := api.View{Base: api.State{Seq: 1, Last: 1, Tables: []api.Table{{Name: "t", Docs: []api.Doc{{Id: 1, Versions: versions(1, doc("a", all(), "b", doc()))}}}, {Name: "u"}}}}
	w := twin(v)
	w.Revs = []api.Rev{}
	w.Base.Tables[0].Indexes = make([]string, 0, 5)
	w.Base.Tables[1].Docs, w.Base.Tables[1].Indexes = []api.Doc{}, []string{}
	x := &w.Base.Tables[0].Docs[0].Versions[0].Value
	x.List = []api.Value{}
	x.Fields[0].Value.List, x.Fields[0].Value.Fields = []api.Value{}, []api.Field{}
	m := newMaker(160)
	for range 500 {
		text := m.statement()
		if a, b := exec(v, text, api.MaxFuel), exec(w, text, api.MaxFuel); !same(a, b) {
			t.Fatalf("%s: %s, with empty lists %s", text, show(a), show(b))
		}
	}
}

// P1: great views made by hand.
func TestGreatViews(t *testing.T) {
	s := api.State{Seq: 9}
	for i := range api.MaxTables {
		x := api.Table{Name: name(i), Indexes: many(api.MaxFields, name)}
		for range api.MaxDocs {
			s.Last++
			x.Docs = append(x.Docs, api.Doc{Id: s.Last, Versions: versions(1, doc("n0", number(int64(s.Last%5))), doc("n0", number(int64(s.Last%7))))})
		}
		s.Tables = append(s.Tables, x)
	}
	v := api.View{Base: s}
	for i := range api.MaxRevs {
		v.Revs = append(v.Revs, putRev("n3", 800, uint64(i+2), doc("n0", number(int64(i)))))
	}
	if why := view.Check(v); why != api.OK {
		t.Fatalf("error %d", why)
	}
	asSaid(t, v, "SELECT * FROM n3 WHERE n0 = 6 ORDER BY n1", api.MaxFuel)
	fails(t, v, "SELECT * FROM HISTORY(n3)", api.MaxFuel, api.ErrMany, "n3")
	fails(t, v, "INSERT INTO n3 {}", api.MaxFuel, api.ErrFull, "n3")
	long := over([]api.Value{doc()})
	long.Base.Tables[0].Docs[0].Versions = many(70000, func(i int) api.Version { return api.Version{Seq: 1, Value: doc()} })
	fails(t, long, "SELECT * FROM HISTORY(t) WHERE FALSE", api.MaxFuel, api.ErrFuel, "t")
	revsAre(t, long, "DELETE FROM t", dropRev("t", 1, 70000))
}
