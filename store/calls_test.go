package store_test

import (
	"math"
	"strings"
	"testing"

	"codicil/api"
	"codicil/ledger"
	"codicil/store"
)

// The chapter's examples.
func TestExample(t *testing.T) {
	s, why := store.Open(api.Disk{Cap: 20, Fuse: -1})
	if why != api.OK {
		t.Fatalf("Open: error %d", why)
	}
	one := func(s api.Store) (api.Store, uint64, api.Errno) {
		s, id, _ := store.Begin(s)
		s, _, _ = store.Exec(s, id, "CREATE TABLE t", 10)
		return store.Commit(s, id)
	}
	full, seq, why := one(s)
	if seq != 0 || why != api.ErrFull || full.Broken || len(full.Ledger.Blocks) != 0 || full.Disk != s.Disk {
		t.Errorf("Commit: %s, %d, error %d", show(full), seq, why)
	}
	s.Disk.Cap, s.Disk.Fuse = 1000, 1
	off, seq, why := one(s)
	if seq != 0 || why != api.ErrDown || !off.Broken || len(off.Ledger.Blocks) != 0 {
		t.Errorf("Commit: %s, %d, error %d", show(off), seq, why)
	}
	for keep := range len(off.Disk.Data) + 2 {
		back, why := store.Crash(off, keep)
		want := 0
		if keep >= len(off.Disk.Data) {
			want = 1
		}
		if len(back.Ledger.Blocks) != want || why != api.OK || len(back.Ledger.State.Tables) != want {
			t.Errorf("%d bytes kept: %s, error %d", keep, show(back), why)
		}
	}
}

// 19.2: Begin, Exec and Abort are the ledger's, with each of its errors; the disk is as it was.
func TestLikeTheLedger(t *testing.T) {
	s := busy(t)
	full := s
	for len(full.Ledger.Sessions) < api.MaxSess {
		full, _ = opened(t, full)
	}
	many64 := did(t, s, 5, many(62, func(int) string { return "INSERT INTO u {}" })...)
	count := map[api.Errno]int{}
	held := func(s api.Store, c call) {
		t.Helper()
		got := asSaid(t, s, c)
		var l api.Ledger
		var why api.Errno
		switch c.what {
		case "Begin":
			l, _, why = ledger.Begin(s.Ledger)
		case "Exec":
			l, _, why = ledger.Exec(s.Ledger, c.id, c.text, c.fuel)
		case "Abort":
			l, why = ledger.Abort(s.Ledger, c.id)
		}
		if got.Why != why || !same(got.Store, api.Store{Disk: s.Disk, Ledger: l}) {
			t.Fatalf("%s: %s, the ledger's error %d, %s", show(c), show(got), why, show(l))
		}
		if why != api.OK && (got.Id != 0 || !same(got.Result, api.Result{})) {
			t.Fatalf("%s: %s", show(c), show(got))
		}
		count[why]++
	}
	held(s, begin())
	held(full, begin())
	held(fresh(), begin())
	for _, id := range []int{4, 5, 6, 7, 8, 3, 9, 0, -1, math.MaxInt, math.MinInt} {
		held(s, abort(id))
		for _, text := range []string{
			"SELECT * FROM t", "SELECT b AS x FROM t WHERE a = 4", "INSERT INTO t {a: 5}", "UPDATE t SET a = 1", "DELETE FROM u", "CREATE TABLE new", "CREATE INDEX ON w (a)",
			"", "nothing", "CREATE TABLE t", "SELECT * FROM none", "INSERT INTO t 5", "SELECT a < 'x' AS x FROM t", "SELECT 9223372036854775807 + 1 AS x FROM t",
			"'\xff'", "INSERT INTO t {a: 1, a: 2}", "SELECT * FROM t" + strings.Repeat(" ", 1010), "INSERT INTO t {a: 1" + strings.Repeat(" + 1", 100) + "}",
			"INSERT INTO t {a: " + strings.Repeat("(", 17) + "1" + strings.Repeat(")", 17) + "}",
		} {
			for _, fuel := range []int{api.MaxFuel, 0, -1, api.MaxFuel + 1} {
				held(s, exec(id, text, fuel))
			}
		}
	}
	held(many64, exec(5, "DELETE FROM t", api.MaxFuel))
	held(many64, exec(5, "SELECT * FROM t", api.MaxFuel))
	for _, why := range []api.Errno{api.OK, api.ErrFull, api.ErrUnknown, api.ErrState, api.ErrRange, api.ErrSyntax, api.ErrFuel, api.ErrType, api.ErrName, api.ErrTwice, api.ErrOver, api.ErrLong, api.ErrUtf, api.ErrMany, api.ErrDepth} {
		if count[why] == 0 {
			t.Errorf("met %v", count)
		}
	}
}

// 19.2: what no change of the disk asks for does none, so that the power stays.
func TestNoChangeNoPower(t *testing.T) {
	s := busy(t)
	s.Disk.Fuse = 0
	for _, c := range []call{begin(), exec(5, "INSERT INTO u {}", 99), abort(5), commit(4), commit(8), commit(7), commit(9)} {
		if got := asSaid(t, s, c); got.Store.Broken || got.Store.Disk != s.Disk {
			t.Errorf("%s: %s", show(c), show(got))
		}
	}
}
