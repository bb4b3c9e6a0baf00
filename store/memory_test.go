package store_test

import (
	"runtime"
	"testing"

	"codicil/api"
	"codicil/store"
)

// stores are such as calls may be done with: well, Broken, full, tight, with the power going, not right.
func stores(t *testing.T) []api.Store {
	t.Helper()
	s := busy(t)
	full := s
	for len(full.Ledger.Sessions) < api.MaxSess {
		full, _ = opened(t, full)
	}
	tight, first, second, wrong := twin(s), twin(s), twin(s), twin(s)
	tight.Disk.Cap = len(s.Disk.Data) + 9
	first.Disk.Fuse = 0
	second.Disk.Fuse = 1
	wrong.Disk.Synced--
	return []api.Store{s, full, tight, first, second, wrong, downed(t), fresh()}
}

// disks are such as Open may be done with.
func disks(t *testing.T) []api.Disk {
	t.Helper()
	data := small(t).Disk.Data
	out := []api.Disk{on(""), on(data), on(data + "junk"), on(data[:len(data)-1]), {Data: data, Cap: api.MaxDisk, Fuse: -1}, {Data: data + "junk", Cap: api.MaxDisk, Fuse: -1}, {Data: data, Synced: 9}, {Data: data, Cap: api.MaxDisk, Down: true}}
	out = append(out, on(framed(behind(t, long(t, 3), []api.Rev{tableRev("t")}, []api.Rev{tableRev("u")}))))
	for _, d := range out {
		d.Fuse = 0
		out = append(out, d)
	}
	return out
}

// 19.4: answers are new memory, in all their lists and texts, whatever the error is.
func TestNewMemory(t *testing.T) {
	count := map[api.Errno]int{}
	for _, s := range stores(t) {
		for _, c := range calls() {
			got, again := c.does(s), c.does(s)
			apart(t, got, s, c, again)
			if !same(got, again) {
				t.Fatalf("%s: %s, then %s", show(c), show(got), show(again))
			}
			count[got.Why]++
		}
	}
	for _, why := range []api.Errno{api.OK, api.ErrFull, api.ErrUnknown, api.ErrState, api.ErrRange, api.ErrDown} {
		if count[why] == 0 {
			t.Errorf("met %v", count)
		}
	}
	for _, d := range disks(t) {
		got, _ := store.Open(d)
		again, _ := store.Open(d)
		apart(t, got, d, again)
	}
}

// 19.4: a text that is shared by what is handed in is shared by no answer.
func TestSharedTexts(t *testing.T) {
	for _, s := range stores(t) {
		for i := range s.Ledger.Sessions {
			s.Ledger.Sessions[i].View.Base = s.Ledger.State
		}
		for i, x := range s.Ledger.Blocks {
			s.Ledger.Blocks[i].Revs = x.Revs
			if i > 0 {
				s.Ledger.Blocks[i].Statements = x.Statements
			}
		}
		for _, c := range calls() {
			apart(t, c.does(s), s, c)
		}
	}
}

// 19.4: nothing of what is handed in is kept.
func TestKeepsNothing(t *testing.T) {
	for _, from := range stores(t) {
		for _, c := range calls() {
			want := c.does(from)
			s, spoil := lent(from)
			text, spoilText := lent(c.text)
			mine := c
			mine.text = text
			got := mine.does(s)
			spoil()
			if text != "" {
				spoilText()
			}
			if !same(got, want) {
				t.Fatalf("%s: %s, not %s", show(c), show(got), show(want))
			}
		}
	}
	for _, from := range disks(t) {
		want, wanted := store.Open(from)
		d, spoil := lent(from)
		got, why := store.Open(d)
		spoil()
		if !same(got, want) || why != wanted {
			t.Fatalf("Open(%s): %s, error %d", show(from), show(got), why)
		}
	}
}

// 19.4: room behind lists is not written to.
func TestLeavesRoom(t *testing.T) {
	s := busy(t)
	s.Ledger.Blocks = append(make([]api.Block, 0, 9), s.Ledger.Blocks...)
	s.Ledger.Sessions = append(make([]api.Session, 0, 9), s.Ledger.Sessions...)
	s.Ledger.State.Tables = append(make([]api.Table, 0, 9), s.Ledger.State.Tables...)
	ahead := twin(s)
	for _, broken := range []bool{false, true} {
		s.Broken, ahead.Broken = broken, broken
		for _, c := range calls() {
			c.does(s)
			l := s.Ledger
			if !same(s, ahead) || !same(l.Blocks[3:9], make([]api.Block, 6)) || !same(l.Sessions[5:9], make([]api.Session, 4)) || !same(l.State.Tables[3:9], make([]api.Table, 6)) {
				t.Fatalf("%s wrote to %s", show(c), show(s))
			}
		}
	}
}

// P1, P3: nil and empty lists are alike, and no answer hangs on a capacity.
func TestEmptyLists(t *testing.T) {
	s := busy(t)
	x := twin(s)
	x.Ledger.State.Tables[2].Docs, x.Ledger.State.Tables[2].Indexes = []api.Doc{}, make([]string, 0, 7)
	y := &x.Ledger.Sessions[0]
	y.Statements, y.Reads, y.View.Revs = []string{}, []api.Read{}, make([]api.Rev, 0, 3)
	x.Ledger.Blocks = append(make([]api.Block, 0, 300), x.Ledger.Blocks...)
	for _, broken := range []bool{false, true} {
		s.Broken, x.Broken = broken, broken
		for _, c := range calls() {
			if a, b := c.does(s), c.does(x); !same(a, b) {
				t.Errorf("%s: %s, with empty lists %s", show(c), show(a), show(b))
			}
		}
	}
	none := fresh()
	none.Ledger.Blocks, none.Ledger.Sessions, none.Ledger.State.Tables = []api.Block{}, []api.Session{}, []api.Table{}
	for _, c := range calls() {
		if a, b := c.does(fresh()), c.does(none); !same(a, b) {
			t.Errorf("%s: %s, with empty lists %s", show(c), show(a), show(b))
		}
	}
}

// P1: great stores made by hand, and great disks.
func TestGreatOnes(t *testing.T) {
	deep := api.Value{}
	for range 1 << 16 {
		deep = api.Value{Kind: api.KindList, List: []api.Value{deep}}
	}
	s := busy(t)
	s.Ledger.Blocks[2].Revs[0].Value = deep
	s.Ledger.State.Tables[0].Docs[0].Versions[0].Value = deep
	for _, broken := range []bool{false, true} {
		s.Broken = broken
		for _, c := range calls() {
			if got := c.does(s); !same(got, told{Why: api.ErrState}) {
				t.Errorf("%s: error %d", show(c), got.Why)
			}
		}
	}
	s = busy(t)
	s.Ledger.Blocks = append(s.Ledger.Blocks, many(1<<16, func(int) api.Block { return s.Ledger.Blocks[0] })...)
	if got := begin().does(s); got.Why != api.ErrState {
		t.Errorf("many blocks: error %d", got.Why)
	}
	s = busy(t)
	s.Disk.Data += xs(1 << 24)
	if got := begin().does(s); got.Why != api.ErrState {
		t.Errorf("many bytes: error %d", got.Why)
	}
	for _, data := range []string{xs(api.MaxDisk), string(make([]byte, api.MaxDisk)), xs(api.MaxDisk + 1)} {
		isOpened(t, on(data))
	}
}

// P4: no goroutine is left.
func TestNoGoroutineLeft(t *testing.T) {
	ahead := runtime.NumGoroutine()
	for _, s := range stores(t) {
		for _, c := range calls() {
			c.does(s)
		}
	}
	for _, d := range disks(t) {
		store.Open(d)
	}
	if now := runtime.NumGoroutine(); now > ahead {
		t.Errorf("%d goroutines, ahead of it %d", now, ahead)
	}
}

// P3: what a call answers hangs on nothing that another one did, at the same time neither.
func TestManyAtOnce(t *testing.T) {
	s := busy(t)
	want := commit(5).does(s)
	out := make(chan told)
	for range 8 {
		go func() { out <- commit(5).does(s) }()
	}
	for range 8 {
		if got := <-out; !same(got, want) {
			t.Errorf("%s, not %s", show(got), show(want))
		}
	}
}
