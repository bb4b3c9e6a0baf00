package ledger_test

import (
	"math"
	"slices"
	"testing"

	"codicil/api"
	"codicil/ledger"
	"codicil/occ"
)

// checked fails, unless Check answers what the chapter says, and leaves what it was handed; it tells whether the ledger is right.
func checked(t *testing.T, name string, l api.Ledger) bool {
	t.Helper()
	ahead := twin(l)
	want := api.ErrState
	if isRight(l) {
		want = api.OK
	}
	if why := ledger.Check(l); why != want {
		t.Errorf("%s: Check(%s): error %d, not %d", name, show(l), why, want)
	}
	if !same(l, ahead) {
		t.Errorf("%s: Check(%s) changed its ledger: %s", name, show(ahead), show(l))
	}
	return want == api.OK
}

// calls are all of them, of a ledger's first session and of none.
func calls(l api.Ledger) []call {
	out := []call{begin()}
	for _, id := range []int{-1, 0, 4, l.Last + 1} {
		for _, text := range []string{"SELECT * FROM t", "no statement"} {
			out = append(out, exec(id, text, 99), exec(id, text, -1))
		}
		out = append(out, commit(id), abort(id))
	}
	return out
}

// 17.1: New is right, and has nothing.
func TestNew(t *testing.T) {
	l := ledger.New()
	if !same(l, api.Ledger{Prev: nought}) || !checked(t, "new", l) {
		t.Errorf("New: %s", show(l))
	}
	apart(t, l, ledger.New())
}

// 17.1: ledgers that are right, at their edges.
func TestRight(t *testing.T) {
	full := busy(t)
	for len(full.Sessions) < api.MaxSess {
		full, _ = opened(t, full)
	}
	for _, x := range []struct {
		name string
		from api.Ledger
		with func(l *api.Ledger)
	}{
		{"no block", ledger.New(), func(l *api.Ledger) {}},
		{"no block, but a session", ledger.New(), func(l *api.Ledger) { l.Last, l.Sessions = 1, []api.Session{{Id: 1}} }},
		{"no block, sessions were", ledger.New(), func(l *api.Ledger) { l.Last = 9 }},
		{"no session", small(t), func(l *api.Ledger) {}},
		{"no session ever", small(t), func(l *api.Ledger) { l.Last = 0 }},
		{"Last below 0", small(t), func(l *api.Ledger) { l.Last = -7 }},
		{"sessions", busy(t), func(l *api.Ledger) {}},
		{"MaxSess sessions", full, func(l *api.Ledger) {}},
		{"great Last", busy(t), func(l *api.Ledger) { l.Last = math.MaxInt }},
		{"great Id", busy(t), func(l *api.Ledger) { l.Last = math.MaxInt; l.Sessions[3].Id = math.MaxInt }},
		{"Ids from 1 on", busy(t), func(l *api.Ledger) {
			for i := range l.Sessions {
				l.Sessions[i].Id = i + 1
			}
		}},
		{"all of one Base", busy(t), func(l *api.Ledger) {
			for i := range l.Sessions {
				l.Sessions[i] = api.Session{Id: i + 1, View: api.View{Base: l.State}}
			}
		}},
		{"a Dead session", busy(t), func(l *api.Ledger) { l.Sessions[1].Dead = true }},
		{"Reads by hand", busy(t), func(l *api.Ledger) { l.Sessions[0].Reads = make([]api.Read, 64) }},
		{"Statements by hand", busy(t), func(l *api.Ledger) { l.Sessions[0].Statements = make([]string, 64) }},
		{"Revs by hand", busy(t), func(l *api.Ledger) { l.Sessions[0].View.Revs = []api.Rev{tableRev("t")} }},
		{"empty lists", ledger.New(), func(l *api.Ledger) {
			l.Blocks, l.Sessions, l.State.Tables = []api.Block{}, []api.Session{}, []api.Table{}
		}},
		{"more empty lists", busy(t), func(l *api.Ledger) {
			l.State.Tables[2].Docs, l.State.Tables[2].Indexes = []api.Doc{}, []string{}
			l.State.Tables[0].Docs[0].Versions[0].Value.List = []api.Value{}
			l.Sessions[0].Reads, l.Sessions[0].View.Base.Tables = []api.Read{}, []api.Table{}
			l.Sessions[2].View.Base.Tables[2].Docs = []api.Doc{}
			l.Blocks[0].Revs[0].Value.Fields = []api.Field{}
		}},
	} {
		l := twin(x.from)
		x.with(&l)
		if !checked(t, x.name, l) {
			t.Errorf("%s: %s is not right", x.name, show(l))
		}
		for _, c := range calls(l) {
			asSaid(t, l, c)
		}
	}
}

// wrong are changes, each of which makes a busy ledger one that is not right.
func wrong(t *testing.T) map[string]func(l *api.Ledger) {
	three := small(t)
	four := with(t, three, "INSERT INTO t {a: 9}")
	return map[string]func(l *api.Ledger){
		"zero":                        func(l *api.Ledger) { *l = api.Ledger{} },
		"no State":                    func(l *api.Ledger) { l.State = api.State{} },
		"State's Seq is less":         func(l *api.Ledger) { l.State.Seq-- },
		"State's Seq is more":         func(l *api.Ledger) { l.State.Seq++ },
		"State's Last is less":        func(l *api.Ledger) { l.State.Last-- },
		"State's Last is more":        func(l *api.Ledger) { l.State.Last++ },
		"one table less":              func(l *api.Ledger) { l.State.Tables = l.State.Tables[:2] },
		"one table more":              func(l *api.Ledger) { l.State.Tables = append(l.State.Tables, api.Table{Name: "x"}) },
		"tables changed about":        func(l *api.Ledger) { slices.Reverse(l.State.Tables) },
		"another table":               func(l *api.Ledger) { l.State.Tables[2].Name = "x" },
		"one index less":              func(l *api.Ledger) { l.State.Tables[0].Indexes = l.State.Tables[0].Indexes[:1] },
		"one index more":              func(l *api.Ledger) { l.State.Tables[2].Indexes = []string{"a"} },
		"indexes changed about":       func(l *api.Ledger) { slices.Reverse(l.State.Tables[0].Indexes) },
		"one document less":           func(l *api.Ledger) { l.State.Tables[1].Docs = nil },
		"another document":            func(l *api.Ledger) { l.State.Tables[0].Docs[2].Id = 5; l.State.Last = 5 },
		"one version less":            func(l *api.Ledger) { l.State.Tables[0].Docs[2].Versions = l.State.Tables[0].Docs[2].Versions[:1] },
		"a version's Seq":             func(l *api.Ledger) { l.State.Tables[0].Docs[2].Versions[0].Seq = 1 },
		"a version's Value":           func(l *api.Ledger) { l.State.Tables[0].Docs[2].Versions[0].Value = doc() },
		"a part of a version's Value": func(l *api.Ledger) { l.State.Tables[0].Docs[1].Versions[0].Value.Fields[1].Value.List[1].S = "y" },
		"a version that is not gone":  func(l *api.Ledger) { l.State.Tables[0].Docs[1].Versions[1] = api.Version{Seq: 3, Value: doc()} },
		"a version that is gone":      func(l *api.Ledger) { l.State.Tables[0].Docs[2].Versions[1] = api.Version{Seq: 3, Gone: true} },
		"a State that is not right":   func(l *api.Ledger) { l.State.Tables[0].Docs[1].Versions[1].Value = number(1) },
		"State ahead of the last one": func(l *api.Ledger) { l.State = of(t, l.Blocks[:2]).State },
		"State behind the last one":   func(l *api.Ledger) { l.State = four.State },
		"no Prev":                     func(l *api.Ledger) { l.Prev = "" },
		"Prev ahead of all":           func(l *api.Ledger) { l.Prev = nought },
		"Prev of the one ahead":       func(l *api.Ledger) { l.Prev = l.Blocks[2].Prev },
		"Prev behind the last one":    func(l *api.Ledger) { l.Prev = four.Prev },
		"a shorter Prev":              func(l *api.Ledger) { l.Prev = l.Prev[:31] },
		"a longer Prev":               func(l *api.Ledger) { l.Prev += "\x00" },
		"no blocks":                   func(l *api.Ledger) { l.Blocks = nil },
		"one block less":              func(l *api.Ledger) { l.Blocks = l.Blocks[:2] },
		"one block more":              func(l *api.Ledger) { l.Blocks = four.Blocks },
		"the first block left out":    func(l *api.Ledger) { l.Blocks = l.Blocks[1:] },
		"a block that is not right":   func(l *api.Ledger) { l.Blocks[2].Root = nought },
		"another last block":          func(l *api.Ledger) { l.Blocks[2].Statements = nil },
		"all behind the last one":     func(l *api.Ledger) { l.State, l.Prev = four.State, four.Prev },
		"too many sessions": func(l *api.Ledger) {
			l.Last, l.Sessions = 9, many(9, func(i int) api.Session { return api.Session{Id: i + 1} })
		},
		"very many sessions":               func(l *api.Ledger) { l.Sessions = make([]api.Session, 1<<16) },
		"an Id twice":                      func(l *api.Ledger) { l.Sessions[1].Id = 4 },
		"the last Id twice":                func(l *api.Ledger) { l.Sessions[3].Id = 6 },
		"falling Ids":                      func(l *api.Ledger) { l.Sessions[1].Id, l.Sessions[2].Id = 6, 5 },
		"an Id of 0":                       func(l *api.Ledger) { l.Sessions[0].Id = 0 },
		"an Id below 0":                    func(l *api.Ledger) { l.Sessions[0].Id = -4 },
		"the least Id":                     func(l *api.Ledger) { l.Sessions[0].Id = math.MinInt },
		"an Id beyond Last":                func(l *api.Ledger) { l.Sessions[3].Id = 8 },
		"Last is less":                     func(l *api.Ledger) { l.Last = 6 },
		"Last is 0":                        func(l *api.Ledger) { l.Last = 0 },
		"Last is below 0":                  func(l *api.Ledger) { l.Last = math.MinInt },
		"too many Statements":              func(l *api.Ledger) { l.Sessions[0].Statements = make([]string, 65) },
		"a long Statement":                 func(l *api.Ledger) { l.Sessions[1].Statements[0] = xs(1025) },
		"a Statement that is no UTF-8":     func(l *api.Ledger) { l.Sessions[2].Statements[0] = "\xff" },
		"too many Reads":                   func(l *api.Ledger) { l.Sessions[3].Reads = make([]api.Read, 65) },
		"Revs that can't be done":          func(l *api.Ledger) { l.Sessions[3].View.Revs = []api.Rev{tableRev("t")} },
		"too many Revs":                    func(l *api.Ledger) { l.Sessions[3].View.Revs = make([]api.Rev, 65) },
		"a Base that is not right":         func(l *api.Ledger) { l.Sessions[0].View.Base.Tables = make([]api.Table, 1) },
		"a Base of no blocks with a Seq":   func(l *api.Ledger) { l.Sessions[0].View.Base.Seq = 1 },
		"a Base of no blocks with a Last":  func(l *api.Ledger) { l.Sessions[0].View.Base.Last = 1 },
		"a Base of no blocks with a table": func(l *api.Ledger) { l.Sessions[0].View.Base.Tables = []api.Table{{Name: "t"}} },
		"a Base of another ledger":         func(l *api.Ledger) { l.Sessions[1] = api.Session{Id: 5, View: api.View{Base: of(t, long(t, 2)).State}} },
		"a Base behind the last block":     func(l *api.Ledger) { l.Sessions[1] = api.Session{Id: 5, View: api.View{Base: four.State}} },
		"a Base with a greater Seq":        func(l *api.Ledger) { l.Sessions[1].View.Base.Seq = 3 },
		"a Base with the greatest Seq":     func(l *api.Ledger) { l.Sessions[1].View.Base.Seq = 1<<62 - 1 },
		"a Base with another document":     func(l *api.Ledger) { l.Sessions[2].View.Base.Tables[1].Docs[0].Versions[0].Value = doc() },
		"the last Base is another one":     func(l *api.Ledger) { l.Sessions[3] = api.Session{Id: 7, View: api.View{Base: four.State}} },
		"one Base is twice right, one not": func(l *api.Ledger) {
			l.Sessions = []api.Session{{Id: 1, View: api.View{Base: l.State}}, {Id: 2, View: api.View{Base: l.State}}, {Id: 3, View: api.View{Base: four.State}}}
		},
	}
}

// 17.1: ledgers that are not right, in each of their parts; all calls answer that, all else being zero.
func TestNotRight(t *testing.T) {
	from := busy(t)
	for name, with := range wrong(t) {
		l := twin(from)
		with(&l)
		if checked(t, name, l) {
			t.Errorf("%s: %s is right", name, show(l))
		}
		for _, c := range calls(l) {
			if got := c.does(l); !same(got, told{Why: api.ErrState}) {
				t.Errorf("%s: %s: %s", name, show(c), show(got))
			}
		}
	}
	for _, x := range from.Sessions {
		if occ.Check(x) != api.OK {
			t.Errorf("%s is not right", show(x))
		}
	}
}

// 17.1: each session's Base may be what any of the first blocks make.
func TestBases(t *testing.T) {
	l := small(t)
	l.Last = 4
	for first := range 4 {
		for second := range 4 {
			x := l
			x.Sessions = []api.Session{
				{Id: 2, View: api.View{Base: of(t, l.Blocks[:first]).State}},
				{Id: 4, View: api.View{Base: of(t, l.Blocks[:second]).State}},
			}
			if !checked(t, "bases", x) {
				t.Errorf("Bases of %d and %d blocks are not right", first, second)
			}
		}
	}
}
