package occ_test

import (
	"runtime"
	"strings"
	"testing"

	"codicil/api"
	"codicil/occ"
)

// 16.4: answers are new memory, in all their lists and texts, whatever the error is.
func TestNewMemory(t *testing.T) {
	l := small(t)
	m := l.with(t, "UPDATE u SET word = 'words'")
	dead := l.opened(t, "INSERT INTO t {word: 'words'}", "SELECT * FROM t WHERE a = 'words'")
	dead.Dead = true
	full := l.opened(t, "INSERT INTO t {word: 'words'}", "SELECT * FROM t WHERE a = 'words'")
	full.Statements = many(64, name)
	for _, x := range []api.Session{l.opened(t), l.opened(t, "INSERT INTO t {word: 'words'}", "SELECT * FROM t WHERE a = 'words'", "CREATE TABLE word", "CREATE INDEX ON word (words)"), dead, full} {
		for _, text := range []string{"SELECT * FROM t WHERE a = 'words'", "SELECT a AS words FROM t", "INSERT INTO t {word: 'words'}", "UPDATE t SET words = 'word' WHERE a = 1", "no statement", "INSERT INTO t 5", "SELECT * FROM t" + strings.Repeat(" ", 1024), "CREATE INDEX ON t (words)"} {
			for _, fuel := range []int{-1, 0, 99} {
				got, again := exec(x, text, fuel), exec(x, text, fuel)
				apart(t, got, x, text, again)
				if !same(got, again) {
					t.Fatalf("%s: %s, then %s", text, show(got), show(again))
				}
			}
		}
		prev := xs(32)
		got, again := commit(x, l.state, nil, prev), commit(x, l.state, nil, prev)
		apart(t, got, x, l, prev, again)
		got, again = commit(x, m.state, m.blocks[3:], prev), commit(x, m.state, m.blocks[3:], prev)
		apart(t, got, x, m, prev, again)
		if !same(got, again) {
			t.Fatalf("%s, then %s", show(got), show(again))
		}
	}
	x, _ := occ.Begin(1, l.state)
	y, _ := occ.Begin(1, l.state)
	apart(t, x, l.state, y)
}

// 16.4: nothing of what is handed in is kept.
func TestKeepsNothing(t *testing.T) {
	word1, spoilWord := lent("word")
	text, spoilText := lent("UPDATE word SET a = 'words' WHERE word = 'word'")
	prev, spoilPrev := lent(xs(32))
	begun := func(word string) api.State {
		return api.State{Seq: 1, Last: 1, Tables: []api.Table{{Name: word, Indexes: []string{word}, Docs: []api.Doc{{Id: 1, Versions: versions(1, doc(word, api.Value{Kind: api.KindText, S: word}))}}}}}
	}
	handed := func(word string, s api.State) api.Session {
		return api.Session{Id: 3, View: api.View{Base: s, Revs: []api.Rev{tableRev(word + "s")}}, Reads: []api.Read{key(word, word, api.Value{Kind: api.KindText, S: word})}, Statements: []string{word}}
	}
	s := begun(word1)
	x := handed(word1, s)
	b, _ := occ.Begin(3, s)
	did := exec(x, text, 99)
	refused := exec(x, "no statement", 99)
	got := commit(did.Session, s, nil, prev)
	spoilWord()
	spoilText()
	spoilPrev()
	x.Reads[0], x.Statements[0], x.View.Revs[0] = api.Read{}, "other", api.Rev{}
	s.Tables[0].Docs[0].Versions[0].Value.Fields[0].Value = null()
	s.Tables[0].Indexes[0] = "other"
	old := begun("word")
	was := handed("word", old)
	want := saidExec(was, "UPDATE word SET a = 'words' WHERE word = 'word'", 99)
	if !same(b, api.Session{Id: 3, View: api.View{Base: old}}) || !same(did, want) || !same(refused, told{Session: was, Why: api.ErrSyntax}) {
		t.Errorf("kept: %s, %s, %s", show(b), show(did), show(refused))
	}
	if !same(got, saidCommit(want.Session, old, nil, xs(32))) || got.Why != api.OK {
		t.Errorf("kept: %s", show(got))
	}
}

// 16.4: room behind lists is not written to.
func TestLeavesRoom(t *testing.T) {
	l := small(t)
	x := l.opened(t, "INSERT INTO t {a: 7}", "SELECT * FROM t WHERE a = 1")
	x.Statements = append(make([]string, 0, 9), x.Statements...)
	x.Reads = append(make([]api.Read, 0, 9), x.Reads...)
	x.View.Revs = append(make([]api.Rev, 0, 9), x.View.Revs...)
	ahead := twin(x)
	for _, text := range []string{"INSERT INTO t {a: 8}", "SELECT * FROM t", "INSERT INTO t 5", "no statement"} {
		exec(x, text, 99)
		commit(x, l.state, nil, nought)
		if !same(x, ahead) || !same(x.Statements[2:9], make([]string, 7)) || !same(x.Reads[1:9], make([]api.Read, 8)) || !same(x.View.Revs[1:9], make([]api.Rev, 8)) {
			t.Fatalf("%s wrote to %s", text, show(x))
		}
	}
}

// P3: nil and empty lists are alike.
func TestEmptyLists(t *testing.T) {
	l := small(t)
	x := l.opened(t)
	y := twin(x)
	y.Reads, y.Statements, y.View.Revs = []api.Read{}, make([]string, 0, 5), []api.Rev{}
	for i := range y.View.Base.Tables {
		z := &y.View.Base.Tables[i]
		z.Indexes, z.Docs = append(make([]string, 0, 9), z.Indexes...), append([]api.Doc{}, z.Docs...)
	}
	for _, text := range []string{"SELECT * FROM t", "INSERT INTO t {}", "INSERT INTO t 5", "no statement"} {
		a, b := exec(x, text, 99), exec(y, text, 99)
		if !same(a, b) {
			t.Errorf("%s: %s, with empty lists %s", text, show(a), show(b))
		}
		if !same(commit(a.Session, l.state, nil, nought), commit(b.Session, l.state, []api.Block{}, nought)) {
			t.Errorf("%s: committed unlike", text)
		}
	}
}

// P1: great sessions, states and blocks made by hand.
func TestGreatOnes(t *testing.T) {
	s := api.State{Seq: 1}
	for i := range api.MaxTables {
		x := api.Table{Name: name(i), Indexes: many(api.MaxFields, name)}
		for range api.MaxDocs {
			s.Last++
			x.Docs = append(x.Docs, api.Doc{Id: s.Last, Versions: versions(1, doc("n0", number(int64(s.Last%5))))})
		}
		s.Tables = append(s.Tables, x)
	}
	x := api.Session{View: api.View{Base: s}}
	var blocks []api.Block
	after := twin(s)
	for i := range 100 {
		var revs []api.Rev
		after.Seq++
		for j := range api.MaxRevs {
			d := &after.Tables[i%16].Docs[j]
			v := doc("n0", number(int64(i)))
			revs = append(revs, putRev(name(i%16), d.Id, uint64(len(d.Versions)), v))
			d.Versions = append(d.Versions, api.Version{Seq: after.Seq, Value: v})
		}
		blocks = append(blocks, block(t, after.Seq, revs...))
	}
	for i := range api.MaxParts {
		x.Reads = append(x.Reads, key(name(i%16), "n0", number(int64(1000+i))))
		x.View.Revs = append(x.View.Revs, putRev("n3", 1000, uint64(i+1), doc()))
	}
	if is, why := occ.Disturbed(x, after, blocks); is || why != api.OK {
		t.Errorf("%v, error %d", is, why)
	}
	if got := commit(x, after, blocks, nought); got.Why != api.OK {
		t.Errorf("error %d", got.Why)
	}
	x.Reads[63] = key("n0", "n0", number(96))
	if is, why := occ.Disturbed(x, after, blocks); !is || why != api.OK {
		t.Errorf("%v, error %d", is, why)
	}
	unfit(t, "very many", x, after, make([]api.Block, 1<<16))
}

// P4: no goroutine is left.
func TestNoGoroutineLeft(t *testing.T) {
	ahead := runtime.NumGoroutine()
	w, m := world{line: small(t)}, newMaker(164)
	for range 200 {
		w.step(t, m)
	}
	if now := runtime.NumGoroutine(); now > ahead {
		t.Errorf("%d goroutines, ahead of it %d", now, ahead)
	}
}
