package store_test

import (
	"slices"
	"strings"
	"testing"

	"codicil/api"
	"codicil/ledger"
)

// 19.2: a block that is committed stands on the disk, synced, and the ledger is as its Commit says.
func TestCommit(t *testing.T) {
	s := busy(t)
	for _, fuse := range []int{-1, -9, 2, 3, 1 << 40} {
		s.Disk.Fuse = fuse
		got := met(t, s, commit(5), api.OK)
		l, seq, _ := ledger.Commit(s.Ledger, 5)
		want := api.Store{Disk: on(s.Disk.Data + frame(l.Blocks[3])), Ledger: l}
		want.Disk.Fuse = fuse
		if fuse > 0 {
			want.Disk.Fuse = fuse - 2
		}
		if got.Seq != 4 || seq != 4 || !same(got.Store, want) {
			t.Errorf("Fuse %d: %s, not %s", fuse, show(got), show(want))
		}
		if fuse == 2 {
			met(t, got.Store, commit(6), api.ErrDown)
			continue
		}
		next := asSaid(t, got.Store, commit(6))
		if broke := fuse == 3; next.Store.Broken != broke || next.Seq != 5 && !broke {
			t.Errorf("Fuse %d, the next one: %s", fuse, show(next))
		}
	}
}

// gone fails, unless Commit has an error or made no block, and the session is no more, all else being as it was.
func gone(t *testing.T, name string, s api.Store, id int, why api.Errno) {
	t.Helper()
	for _, fuse := range []int{-1, 0, 1, 2} {
		s.Disk.Fuse = fuse
		if got := met(t, s, commit(id), why); !same(got, told{Store: without(s, id), Why: why}) {
			t.Errorf("%s: %s", name, show(got))
		}
	}
}

// 19.2: Commit with each error of the ledger's, and with its 0: no change of the disk is done.
func TestCommitOfTheLedger(t *testing.T) {
	s := busy(t)
	gone(t, "it did nothing", s, 4, api.OK)
	gone(t, "it only read", s, 8, api.OK)
	gone(t, "Dead", s, 7, api.ErrState)
	gone(t, "none", s, 9, api.ErrUnknown)
	gone(t, "none of 0", s, 0, api.ErrUnknown)
	gone(t, "disturbed", with(t, s, "INSERT INTO w {}"), 5, api.ErrConflict)
	gone(t, "it only read, and is disturbed", with(t, s, "INSERT INTO t {}"), 8, api.OK)
	s, id := opened(t, s, many(17, func(int) string { return "INSERT INTO w {}" + strings.Repeat(" ", 1000) })...)
	gone(t, "a block that is too long", s, id, api.ErrLong)
	tight := s
	tight.Disk.Cap = len(s.Disk.Data)
	gone(t, "no room, but disturbed ahead of that", tightened(t, s, "INSERT INTO w {}"), 5, api.ErrConflict)
	gone(t, "no room, but too long ahead of that", tight, id, api.ErrLong)
	gone(t, "no room, but it only read", tight, 8, api.OK)
}

// tightened is as with, the disk having no more room then.
func tightened(t *testing.T, s api.Store, texts ...string) api.Store {
	t.Helper()
	s = with(t, s, texts...)
	s.Disk.Cap = len(s.Disk.Data)
	return s
}

// 19.2: MaxBlocks blocks.
func TestCommitMostBlocks(t *testing.T) {
	s := of(t, long(t, api.MaxBlocks-1))
	s = begin().does(s).Store
	s = exec(1, "INSERT INTO t {}", 99).does(s).Store
	s = begin().does(s).Store
	s = exec(2, "UPDATE t SET b = 1", 99).does(s).Store
	got := met(t, s, commit(1), api.OK)
	if got.Seq != api.MaxBlocks || len(got.Store.Ledger.Blocks) != api.MaxBlocks {
		t.Fatalf("the last one: %d", got.Seq)
	}
	if got := met(t, got.Store, commit(2), api.ErrFull); got.Store.Broken || len(got.Store.Ledger.Sessions) != 0 {
		t.Errorf("one more: %s", show(got))
	}
	if back := met(t, got.Store, crash(0), api.OK); len(back.Store.Ledger.Blocks) != api.MaxBlocks {
		t.Errorf("behind a crash: %d", len(back.Store.Ledger.Blocks))
	}
}

// 19.6: on a full disk a commit has ErrFull, and the blocks are as they were; just enough room is enough.
func TestCommitFull(t *testing.T) {
	s := busy(t)
	size := len(frame(met(t, s, commit(5), api.OK).Store.Ledger.Blocks[3]))
	for _, room := range []int{0, 1, 12, size / 2, size - 1, size, size + 1} {
		for _, fuse := range []int{-1, 0, 1, 2, 3} {
			x := twin(s)
			x.Disk.Cap, x.Disk.Fuse = len(s.Disk.Data)+room, fuse
			got := asSaid(t, x, commit(5))
			switch {
			case room < size:
				// The disk refuses it ahead of the power's going.
				if !same(got, told{Store: without(x, 5), Why: api.ErrFull}) {
					t.Errorf("room of %d, fuse %d: %s", room, fuse, show(got))
				}
				// What is there goes on: another session may fit.
				if next := asSaid(t, got.Store, exec(6, "SELECT * FROM t", 99)); next.Why != api.OK {
					t.Errorf("behind it: error %d", next.Why)
				}
			case fuse == 0 || fuse == 1:
				if got.Why != api.ErrDown || !got.Store.Broken {
					t.Errorf("room of %d, fuse %d: %s", room, fuse, show(got))
				}
			case got.Seq != 4 || got.Why != api.OK:
				t.Errorf("room of %d, fuse %d: %s", room, fuse, show(got))
			}
		}
	}
}

// 19.2: the power going at the write and at the sync; store, disk, ledger and sessions behind it.
func TestCommitDown(t *testing.T) {
	s := busy(t)
	for fuse := range 2 {
		for _, id := range []int{5, 6} {
			s.Disk.Fuse = fuse
			got := met(t, s, commit(id), api.ErrDown)
			l, _, _ := ledger.Commit(s.Ledger, id)
			want := without(s, id)
			want.Broken = true
			want.Disk.Data += frame(l.Blocks[3])
			want.Disk.Fuse, want.Disk.Down = 0, true
			if !same(got, told{Store: want, Why: api.ErrDown}) {
				t.Errorf("Fuse %d: %s, not %s", fuse, show(got), show(want))
			}
			if got.Store.Disk.Synced != len(s.Disk.Data) || len(got.Store.Ledger.Blocks) != 3 || len(got.Store.Ledger.Sessions) != 4 {
				t.Errorf("Fuse %d: %s", fuse, show(got))
			}
		}
	}
}

// 19.3, 19.5: each number of bytes kept, of what the power broke off.
func TestCrash(t *testing.T) {
	s := busy(t)
	for _, fuse := range []int{0, 1, 2} {
		s.Disk.Fuse = fuse
		off := asSaid(t, s, commit(5)).Store
		loose := len(off.Disk.Data) - off.Disk.Synced
		if (loose > 0) != (fuse < 2) {
			t.Fatalf("Fuse %d: %d bytes are loose", fuse, loose)
		}
		keeps := append(many(loose+3, func(i int) int { return i - 1 }), -1<<63, 1<<63-1)
		for _, keep := range keeps {
			back := met(t, off, crash(keep), api.OK).Store
			whole := fuse == 2 || keep >= loose
			blocks := s.Ledger.Blocks
			if whole {
				l, _, _ := ledger.Commit(s.Ledger, 5)
				blocks = l.Blocks
			}
			if !same(back, of(t, blocks)) {
				t.Fatalf("Fuse %d, %d bytes kept: %s", fuse, keep, show(back))
			}
		}
	}
}

// 19.3: a crash of a store that is well loses its sessions alone.
func TestCrashOfOneThatIsWell(t *testing.T) {
	for _, s := range []api.Store{fresh(), small(t), busy(t)} {
		for _, fuse := range []int{-1, 0, 5} {
			s.Disk.Fuse = fuse
			for _, keep := range []int{-1, 0, 1, 1 << 20} {
				back := met(t, s, crash(keep), api.OK).Store
				want := of(t, s.Ledger.Blocks)
				want.Disk.Cap = s.Disk.Cap
				if !same(back, want) {
					t.Errorf("%s, not %s", show(back), show(want))
				}
			}
		}
	}
}

// 19.3: a Broken store by hand: its disk, not its ledger, is what is left.
func TestCrashLooksAtTheDisk(t *testing.T) {
	s := busy(t)
	data := s.Disk.Data
	torn := data[:len(data)-1]
	for _, x := range []struct {
		d      api.Disk
		keep   int
		blocks int
	}{
		{on(""), 9, 0},
		{on(data), 0, 3},
		{on(torn), 0, 2},
		{on(data + "junk"), 0, 3},
		{api.Disk{Data: data, Cap: api.MaxDisk}, 0, 0},
		{api.Disk{Data: data, Cap: api.MaxDisk, Down: true}, len(data), 3},
		{api.Disk{Data: data, Cap: api.MaxDisk, Down: true}, len(data) - 1, 2},
		{api.Disk{Data: data + "junk", Synced: len(data) + 2, Cap: api.MaxDisk, Down: true}, 1, 3},
		{on(framed(long(t, 7))), 0, 7},
	} {
		s.Disk, s.Broken = x.d, true
		back := met(t, s, crash(x.keep), api.OK).Store
		if len(back.Ledger.Blocks) != x.blocks || back.Broken || back.Disk.Down || back.Disk.Fuse != -1 || len(back.Ledger.Sessions) != 0 {
			t.Errorf("%s: %s", show(x), show(back))
		}
		if again := met(t, back, crash(0), api.OK); !same(again.Store, back) {
			t.Errorf("19.7: %s, then %s", show(back), show(again))
		}
	}
}

// 19.5: whichever of several commits the power breaks off, those ahead of it are there, and no other one.
func TestAcknowledged(t *testing.T) {
	texts := []string{"CREATE TABLE t", "INSERT INTO t {a: 1}", "UPDATE t SET a = 2", "INSERT INTO t {b: 1}", "DELETE FROM t WHERE a = 2"}
	var all []api.Block
	s := fresh()
	for _, text := range texts {
		s = with(t, s, text)
	}
	all = s.Ledger.Blocks
	for fuse := range 2*len(texts) + 1 {
		s := fresh()
		s.Disk.Fuse = fuse
		acked := 0
		for _, text := range texts {
			s = begin().does(s).Store
			s = exec(len(s.Ledger.Blocks)+1, text, 99).does(s).Store
			got := asSaid(t, s, commit(len(s.Ledger.Blocks)+1))
			if s = got.Store; got.Why == api.OK {
				acked++
			}
		}
		if acked != fuse/2 || s.Broken != (fuse < 2*len(texts)) {
			t.Fatalf("Fuse %d: %d are committed, %s", fuse, acked, show(s))
		}
		for keep := range len(s.Disk.Data) - s.Disk.Synced + 2 {
			back := met(t, s, crash(keep), api.OK).Store
			n := len(back.Ledger.Blocks)
			if n < acked || n > acked+1 || n > len(all) || !slices.EqualFunc(back.Ledger.Blocks, all[:n], func(a, b api.Block) bool { return same(a, b) }) {
				t.Fatalf("19.5: Fuse %d, %d kept: %d blocks, %d are committed", fuse, keep, n, acked)
			}
		}
	}
}
