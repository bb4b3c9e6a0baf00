package ledger_test

import (
	"runtime"
	"slices"
	"testing"

	"codicil/api"
	"codicil/ledger"
)

// every is one call of each kind and of each way in which it may end, of a busy ledger.
func every() []call {
	out := []call{begin()}
	for _, id := range []int{4, 5, 6, 7, 8} {
		for _, text := range []string{"SELECT * FROM t WHERE a = 4", "SELECT word AS words FROM u", "INSERT INTO u {word: 'words'}", "UPDATE t SET words = 'word' WHERE a = 1", "CREATE INDEX ON w (words)", "INSERT INTO t 5", "no statement"} {
			out = append(out, exec(id, text, 99), exec(id, text, 0), exec(id, text, -1))
		}
		out = append(out, commit(id), abort(id))
	}
	return out
}

// 17.4: answers are new memory, in all their lists and texts, whatever the error is.
func TestNewMemory(t *testing.T) {
	from := busy(t)
	full := from
	for len(full.Sessions) < api.MaxSess {
		full, _ = opened(t, full)
	}
	count := map[api.Errno]int{}
	for _, l := range []api.Ledger{from, full, of(t, from.Blocks)} {
		for _, c := range every() {
			got, again := c.does(l), c.does(l)
			apart(t, got, l, c, again)
			if !same(got, again) {
				t.Fatalf("%s: %s, then %s", show(c), show(got), show(again))
			}
			count[got.Why]++
		}
	}
	for _, why := range []api.Errno{api.OK, api.ErrFull, api.ErrUnknown, api.ErrState, api.ErrRange, api.ErrSyntax, api.ErrFuel, api.ErrType} {
		if count[why] == 0 {
			t.Errorf("met %v", count)
		}
	}
	s, prev, _ := ledger.Fold(from.Blocks)
	other, digest, _ := ledger.Fold(from.Blocks)
	apart(t, told{Ledger: api.Ledger{State: s, Prev: prev}}, from, other, digest)
}

// 17.4: a text that is shared by what is handed in is shared by no answer.
func TestSharedTexts(t *testing.T) {
	l := busy(t)
	l.Sessions[1].View.Base = of(t, l.Blocks[:2]).State
	l.Sessions[2].View.Base = l.State
	l.Sessions[3].View.Base = l.State
	l.Sessions[3].Statements = l.Sessions[2].Statements
	for _, c := range every() {
		apart(t, c.does(l), l, c)
	}
}

// 17.4: nothing of what is handed in is kept.
func TestKeepsNothing(t *testing.T) {
	from := busy(t)
	for _, c := range every() {
		want := c.does(from)
		l, spoil := lent(from)
		text, spoilText := lent(c.text)
		mine := c
		mine.text = text
		got := mine.does(l)
		spoil()
		if text != "" {
			spoilText()
		}
		if !same(got, want) {
			t.Fatalf("%s: %s, not %s", show(c), show(got), show(want))
		}
	}
	blocks, spoil := lent(from.Blocks)
	s, prev, why := ledger.Fold(blocks)
	spoil()
	if !same(s, from.State) || prev != from.Prev || why != api.OK {
		t.Errorf("Fold: %s, %x, error %d", show(s), prev, why)
	}
}

// 17.4: room behind lists is not written to.
func TestLeavesRoom(t *testing.T) {
	l := busy(t)
	l.Blocks = append(make([]api.Block, 0, 9), l.Blocks...)
	l.Sessions = append(make([]api.Session, 0, 9), l.Sessions...)
	l.State.Tables = append(make([]api.Table, 0, 9), l.State.Tables...)
	for i := range l.Sessions {
		x := &l.Sessions[i]
		x.Statements = append(make([]string, 0, 9), x.Statements...)
		x.Reads = append(make([]api.Read, 0, 9), x.Reads...)
		x.View.Revs = append(make([]api.Rev, 0, 9), x.View.Revs...)
	}
	ahead := twin(l)
	for _, c := range every() {
		c.does(l)
		if !same(l, ahead) || !same(l.Blocks[3:9], make([]api.Block, 6)) || !same(l.Sessions[4:9], make([]api.Session, 5)) || !same(l.State.Tables[3:9], make([]api.Table, 6)) {
			t.Fatalf("%s wrote to %s", show(c), show(l))
		}
		for _, x := range l.Sessions {
			if n := len(x.Statements); !same(x.Statements[n:9], make([]string, 9-n)) {
				t.Fatalf("%s wrote to %s", show(c), show(x))
			}
		}
	}
}

// P3: nil and empty lists are alike, and no answer hangs on a capacity.
func TestEmptyLists(t *testing.T) {
	l := busy(t)
	x := twin(l)
	x.State.Tables[2].Docs, x.State.Tables[2].Indexes = []api.Doc{}, make([]string, 0, 7)
	x.Sessions[0].Statements, x.Sessions[0].Reads, x.Sessions[0].View.Revs = []string{}, []api.Read{}, make([]api.Rev, 0, 3)
	x.Sessions[0].View.Base.Tables = make([]api.Table, 0, 5)
	x.Blocks = append(make([]api.Block, 0, 300), x.Blocks...)
	for _, c := range every() {
		if a, b := c.does(l), c.does(x); !same(a, b) {
			t.Errorf("%s: %s, with empty lists %s", show(c), show(a), show(b))
		}
	}
}

// P1: great ledgers made by hand.
func TestGreatOnes(t *testing.T) {
	deep := null()
	for range 1 << 16 {
		deep = all(deep)
	}
	l := busy(t)
	l.Sessions[0].Reads = []api.Read{{Key: deep}}
	if got := abort(5).does(l); got.Why != api.OK || len(got.Ledger.Sessions) != 3 {
		t.Errorf("a deep Read: error %d", got.Why)
	}
	l = busy(t)
	l.State.Tables[0].Docs[0].Versions[0].Value = deep
	l.Sessions[1].View.Revs[0].Value = deep
	l.Blocks[2].Revs[0].Value = deep
	for _, c := range every() {
		if got := c.does(l); got.Why != api.ErrState {
			t.Errorf("%s: error %d", show(c), got.Why)
		}
	}
	var revs [][]api.Rev
	for i := range api.MaxTables {
		revs = append(revs, []api.Rev{tableRev(name(i))})
	}
	for i := range 40 {
		revs = append(revs, many(api.MaxRevs, func(j int) api.Rev {
			return putRev(name(i%16), uint64(i*api.MaxRevs+j+1), 0, doc("a", number(int64(j))))
		}))
	}
	l = of(t, behind(t, nil, revs...))
	for len(l.Sessions) < api.MaxSess {
		l = begin().does(l).Ledger
	}
	if got := exec(8, "UPDATE n0 SET a = 1 WHERE a = 5", api.MaxFuel).does(l); got.Why != api.OK || commit(8).does(got.Ledger).Seq != 57 {
		t.Errorf("a great ledger: error %d", got.Why)
	}
}

// P4: no goroutine is left.
func TestNoGoroutineLeft(t *testing.T) {
	ahead := runtime.NumGoroutine()
	l := busy(t)
	for _, c := range slices.Concat(every(), calls(l)) {
		c.does(l)
	}
	if now := runtime.NumGoroutine(); now > ahead {
		t.Errorf("%d goroutines, ahead of it %d", now, ahead)
	}
}
