package store_test

import (
	"math"
	"testing"

	"codicil/api"
	"codicil/store"
)

// change is something that is done to a right store; broken, whole: whether it is right then, being Broken or not.
type change struct {
	name   string
	do     func(s *api.Store)
	broken bool
	whole  bool
}

// changes are what may be done to the store busy.
func changes(t *testing.T) []change {
	t.Helper()
	other := with(t, small(t), "CREATE TABLE other")
	return []change{
		{"nothing", func(s *api.Store) {}, true, true},
		{"a Fuse", func(s *api.Store) { s.Disk.Fuse = 0 }, true, true},
		{"no room behind", func(s *api.Store) { s.Disk.Cap = len(s.Disk.Data) }, true, true},
		{"no sessions", func(s *api.Store) { s.Ledger.Sessions = nil }, true, true},
		{"another Last", func(s *api.Store) { s.Ledger.Last = 99 }, true, true},

		{"a Cap below the bytes", func(s *api.Store) { s.Disk.Cap = len(s.Disk.Data) - 1 }, false, false},
		{"a Cap of -1", func(s *api.Store) { s.Disk.Cap = -1 }, false, false},
		{"a Cap that is too great", func(s *api.Store) { s.Disk.Cap = api.MaxDisk + 1 }, false, false},
		{"Synced beyond the bytes", func(s *api.Store) { s.Disk.Synced++ }, false, false},
		{"Synced of -1", func(s *api.Store) { s.Disk.Synced = -1 }, false, false},
		{"Synced of the least", func(s *api.Store) { s.Disk.Synced = math.MinInt }, false, false},

		{"a State of another Seq", func(s *api.Store) { s.Ledger.State.Seq++ }, false, false},
		{"another Prev", func(s *api.Store) { s.Ledger.Prev = nought }, false, false},
		{"no Prev", func(s *api.Store) { s.Ledger.Prev = "" }, false, false},
		{"a session's Id of another", func(s *api.Store) { s.Ledger.Sessions[1].Id = 4 }, false, false},
		{"a Last below the Ids", func(s *api.Store) { s.Ledger.Last = 7 }, false, false},
		{"a session's Base that never was", func(s *api.Store) { s.Ledger.Sessions[2].View.Base.Last++ }, false, false},
		{"a block less, the State as it was", func(s *api.Store) { s.Ledger.Blocks = s.Ledger.Blocks[:2] }, false, false},
		{"a block that is not right", func(s *api.Store) { s.Ledger.Blocks[2].Root = xs(32) }, false, false},
		{"a block that is not right, its frame missing", func(s *api.Store) {
			s.Disk = on(framed(s.Ledger.Blocks[:2]))
			s.Ledger.Blocks[2].Seq = 0
		}, false, false},
		{"no ledger", func(s *api.Store) { s.Ledger = api.Ledger{} }, false, false},
		{"no ledger, no disk", func(s *api.Store) { *s = api.Store{} }, false, false},
		{"no disk", func(s *api.Store) { s.Disk = api.Disk{} }, true, false},

		{"Down", func(s *api.Store) { s.Disk.Down = true }, true, false},
		{"one byte not synced", func(s *api.Store) { s.Disk.Synced-- }, true, false},
		{"nothing synced", func(s *api.Store) { s.Disk.Synced = 0 }, true, false},
		{"one byte more", func(s *api.Store) { s.Disk = on(s.Disk.Data + "x") }, true, false},
		{"one byte less", func(s *api.Store) { s.Disk = on(s.Disk.Data[:len(s.Disk.Data)-1]) }, true, false},
		{"one byte not so", func(s *api.Store) { s.Disk = on("x" + s.Disk.Data[1:]) }, true, false},
		{"the last byte not so", func(s *api.Store) { s.Disk = on(s.Disk.Data[:len(s.Disk.Data)-1] + "x") }, true, false},
		{"a frame more", func(s *api.Store) { s.Disk = on(other.Disk.Data) }, true, false},
		{"a frame less", func(s *api.Store) { s.Disk = on(framed(s.Ledger.Blocks[:2])) }, true, false},
		{"frames in another order", func(s *api.Store) {
			b := s.Ledger.Blocks
			s.Disk = on(frame(b[0]) + frame(b[2]) + frame(b[1]))
		}, true, false},
		{"the disk of another", func(s *api.Store) { s.Disk = of(t, long(t, 3)).Disk }, true, false},
		{"the ledger of another", func(s *api.Store) { s.Ledger = other.Ledger }, true, false},
		{"no bytes", func(s *api.Store) { s.Disk = on("") }, true, false},
	}
}

// calls are one of each kind and some more, of ids that are there and are not.
func calls() []call {
	out := []call{begin(), crash(0), crash(10000), crash(-1)}
	for _, id := range []int{4, 5, 6, 7, 8, 9, 0, -1} {
		out = append(out, exec(id, "SELECT * FROM t WHERE a = 1", 99), exec(id, "INSERT INTO t {}", 99), exec(id, "no statement", -1), commit(id), abort(id))
	}
	return out
}

// 19.1: stores that are not right in each of their parts, Broken and not, and each call of them.
func TestStoresThatAreNotRight(t *testing.T) {
	from := busy(t)
	for _, c := range changes(t) {
		for _, broken := range []bool{false, true} {
			s := twin(from)
			c.do(&s)
			s.Broken = broken
			right := c.whole && !broken || c.broken && broken
			was := twin(s)
			if why := store.Check(s); (why == api.OK) != right || !right && why != api.ErrState || !same(s, was) {
				t.Errorf("%s, Broken %v: Check tells %d", c.name, broken, why)
			}
			if isRight(s) != right {
				t.Errorf("%s, Broken %v: said otherwise", c.name, broken)
			}
			for _, c := range calls() {
				got := asSaid(t, s, c)
				if !right && !same(got, told{Why: api.ErrState}) {
					t.Fatalf("%s of a store that is not right: %s", show(c), show(got))
				}
				if right && broken && c.what != "Crash" && !same(got, told{Store: s, Why: api.ErrState}) {
					t.Fatalf("%s of a Broken store: %s", show(c), show(got))
				}
			}
		}
	}
}

// 19.1: stores without anything.
func TestCheckOfNothing(t *testing.T) {
	for _, x := range []struct {
		s    api.Store
		want api.Errno
	}{
		{api.Store{}, api.ErrState},
		{api.Store{Broken: true}, api.ErrState},
		{fresh(), api.OK},
		{api.Store{Ledger: api.Ledger{Prev: nought}}, api.OK},
		{api.Store{Ledger: api.Ledger{Prev: nought}, Disk: api.Disk{Down: true}}, api.ErrState},
		{api.Store{Ledger: api.Ledger{Prev: nought}, Disk: api.Disk{Down: true}, Broken: true}, api.OK},
		{api.Store{Ledger: api.Ledger{Prev: nought}, Disk: api.Disk{Cap: 9, Data: "x", Synced: 1}}, api.ErrState},
		{api.Store{Ledger: api.Ledger{Prev: nought}, Disk: api.Disk{Cap: 9, Data: "x"}, Broken: true}, api.OK},
	} {
		if why := store.Check(x.s); why != x.want {
			t.Errorf("Check(%s) = %d, not %d", show(x.s), why, x.want)
		}
		for _, c := range calls() {
			asSaid(t, x.s, c)
		}
	}
}

// 19.1: a Broken store is one that is left alone, but by Crash.
func TestBroken(t *testing.T) {
	s := downed(t)
	for _, c := range calls() {
		got := asSaid(t, s, c)
		if c.what == "Crash" {
			if got.Why != api.OK || got.Store.Broken || len(got.Store.Ledger.Sessions) != 0 || got.Store.Ledger.Last != 0 {
				t.Errorf("Crash: %s", show(got))
			}
			continue
		}
		if !same(got, told{Store: s, Why: api.ErrState}) {
			t.Errorf("%s: %s", show(c), show(got))
		}
	}
}
