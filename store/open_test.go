package store_test

import (
	"math"
	"strings"
	"testing"

	"codicil/api"
	"codicil/journal"
	"codicil/store"
)

// fuses are those that end at the first change, at the one behind it, and behind both, or never.
var fuses = []int{0, 1, 2, 3, -1, -7, math.MaxInt, math.MinInt}

// 19.1: a disk without anything is a store without anything.
func TestOpenNothing(t *testing.T) {
	for _, room := range []int{0, 1, 20, api.MaxDisk} {
		for _, fuse := range fuses {
			d := api.Disk{Cap: room, Fuse: fuse}
			got := isOpened(t, d)
			if !same(got, told{Store: api.Store{Disk: d, Ledger: api.Ledger{Prev: nought}}}) {
				t.Errorf("Open(%v): %s", d, show(got))
			}
		}
	}
}

// 19.1: disks that are not right, or Down.
func TestOpenRefused(t *testing.T) {
	data := framed(long(t, 2))
	for _, d := range []api.Disk{
		{Cap: -1},
		{Cap: math.MinInt},
		{Cap: api.MaxDisk + 1, Fuse: -1},
		{Cap: math.MaxInt, Fuse: -1},
		{Cap: 9, Synced: -1, Fuse: -1},
		{Cap: 9, Synced: 1, Fuse: -1},
		{Cap: 9, Synced: 1, Fuse: -1, Down: true},
		{Data: data, Cap: len(data) - 1, Fuse: -1},
		{Data: data, Cap: len(data), Synced: len(data) + 1, Fuse: -1},
		{Data: data, Cap: len(data), Synced: -1},
	} {
		if got := isOpened(t, d); !same(got, told{Why: api.ErrState}) {
			t.Errorf("Open(%s): %s", show(d), show(got))
		}
	}
	for _, fuse := range fuses {
		for _, data := range []string{"", "torn", data, data + "torn"} {
			for _, synced := range []int{0, len(data)} {
				d := api.Disk{Data: data, Synced: synced, Cap: api.MaxDisk, Down: true, Fuse: fuse}
				if got := isOpened(t, d); !same(got, told{Why: api.ErrDown}) {
					t.Errorf("Open(%s): %s", show(d), show(got))
				}
			}
		}
	}
}

// 19.1: whole frames, all of them synced, some or none.
func TestOpenWhole(t *testing.T) {
	for n := range 5 {
		blocks := long(t, n)
		data := framed(blocks)
		for _, synced := range []int{0, 1, len(data) / 2, len(data) - 1, len(data)} {
			for _, room := range []int{len(data), len(data) + 1, api.MaxDisk} {
				for _, fuse := range fuses {
					d := api.Disk{Data: data, Synced: synced, Cap: room, Fuse: fuse}
					if synced < 0 || synced > len(data) {
						continue
					}
					got := isOpened(t, d)
					if broke := fuse == 0 && synced < len(data); broke != got.Store.Broken || broke != (got.Why == api.ErrDown) {
						t.Fatalf("Open(%s): %s", show(d), show(got))
					}
					if !got.Store.Broken && (!same(got.Store.Ledger, of(t, blocks).Ledger) || got.Store.Disk.Data != data || got.Store.Disk.Synced != len(data)) {
						t.Fatalf("Open(%s): %s", show(d), show(got))
					}
				}
			}
		}
	}
}

// 19.1: frames that are torn anywhere: those that are whole are there, the rest is cut off.
func TestOpenTorn(t *testing.T) {
	s := small(t)
	data := s.Disk.Data
	ends := []int{0}
	for _, b := range s.Ledger.Blocks {
		ends = append(ends, ends[len(ends)-1]+len(frame(b)))
	}
	for size := range len(data) + 1 {
		whole := 0
		for whole < 3 && ends[whole+1] <= size {
			whole++
		}
		for _, synced := range []int{0, ends[whole], size} {
			for _, fuse := range []int{-1, 0, 1} {
				d := api.Disk{Data: data[:size], Synced: synced, Cap: len(data), Fuse: fuse}
				got := isOpened(t, d).Store
				if got.Broken {
					if fuse != 0 || got.Disk.Data != d.Data || got.Disk.Synced != synced || !got.Disk.Down || len(got.Ledger.Blocks) != 0 {
						t.Fatalf("%d bytes, fuse %d: %s", size, fuse, show(got))
					}
					continue
				}
				if len(got.Ledger.Blocks) != whole || got.Disk.Data != data[:ends[whole]] || got.Disk.Synced != ends[whole] || got.Disk.Down {
					t.Fatalf("%d bytes: %s, not %d blocks", size, show(got), whole)
				}
			}
		}
	}
}

// rests are bytes that are no block that goes on from blocks.
func rests(t *testing.T, blocks []api.Block) map[string]string {
	t.Helper()
	next := behind(t, blocks, []api.Rev{tableRev("new")})[len(blocks)]
	prev, seq := next.Prev, next.Seq
	made := func(seq uint64, prev string, revs ...api.Rev) string { return frame(block(t, seq, prev, revs...)) }
	again := behind(t, blocks, []api.Rev{tableRev("new"), tableRev("new")})
	return map[string]string{
		"junk":                      "junk",
		"one byte":                  "\x00",
		"noughts":                   strings.Repeat("\x00", 500),
		"a frame's start":           frame(next)[:12],
		"torn":                      frame(next)[:len(frame(next))-1],
		"a wrong seal":              frame(next)[:4] + xs(8) + frame(next)[12:],
		"a Seq too high":            made(seq+1, prev, tableRev("new")),
		"another Prev":              made(seq, xs(32), tableRev("new")),
		"a block twice":             framed(blocks[len(blocks)-1:]),
		"a table that is there":     made(seq, prev, tableRev("t")),
		"a document that is none":   made(seq, prev, putRev("t", 99, 0, doc())),
		"a table that is none":      made(seq, prev, putRev("none", 1, 0, doc())),
		"a table twice":             frame(again[len(blocks)]),
		"what can't be, and more":   made(seq, prev, tableRev("t")) + "junk",
		"what can't be, and behind": framed(behind(t, behind(t, blocks, []api.Rev{tableRev("t")}), []api.Rev{tableRev("new")})[len(blocks):]),
	}
}

// 19.1: a rest of junk, and of blocks that are whole but not in a row.
func TestOpenRest(t *testing.T) {
	for n := 1; n < 5; n++ {
		blocks := long(t, n)
		data := framed(blocks)
		for name, rest := range rests(t, blocks) {
			for _, synced := range []int{0, len(data) - 1, len(data), len(data) + 1, len(data + rest)} {
				for _, fuse := range fuses {
					d := api.Disk{Data: data + rest, Synced: synced, Cap: api.MaxDisk, Fuse: fuse}
					got := isOpened(t, d)
					if fuse == 0 {
						want := d
						want.Down = true
						if got.Why != api.ErrDown || !same(got.Store, api.Store{Disk: want, Ledger: api.Ledger{Prev: nought}, Broken: true}) {
							t.Fatalf("%s: %s", name, show(got))
						}
						continue
					}
					want := of(t, blocks)
					want.Disk.Fuse = fuse
					if fuse > 0 {
						want.Disk.Fuse--
					}
					if got.Why != api.OK || !same(got.Store, want) {
						t.Fatalf("%s behind %d blocks: %s", name, n, show(got))
					}
				}
			}
		}
	}
	// A block that is whole and chained, but can't be, is read by journal.Scan all the same.
	blocks := behind(t, long(t, 2), []api.Rev{tableRev("t")}, []api.Rev{tableRev("new")})
	if l, _ := journal.Scan(framed(blocks)); len(l) != 4 {
		t.Fatalf("%d blocks are read", len(l))
	}
	if got := isOpened(t, on(framed(blocks))); len(got.Store.Ledger.Blocks) != 2 || got.Store.Disk.Data != framed(blocks[:2]) {
		t.Errorf("Open: %s", show(got))
	}
}

// 19.1: wherever the first block is that can't be, all ahead of it stand, and none behind.
func TestOpenFirstThatCannotBe(t *testing.T) {
	for n := range 20 {
		revs := many(20, func(i int) []api.Rev {
			if i == n {
				return []api.Rev{putRev("none", 1, 0, doc())}
			}
			return []api.Rev{tableRev(name(i % 16))}
		})
		blocks := behind(t, nil, revs...)
		if got := isOpened(t, on(framed(blocks))); len(got.Store.Ledger.Blocks) != min(n, 16) {
			t.Errorf("block %d can't be: %d stand", n+1, len(got.Store.Ledger.Blocks))
		}
	}
}

// 19.1: MaxBlocks blocks stand there, one more is the rest.
func TestOpenMostBlocks(t *testing.T) {
	blocks := long(t, api.MaxBlocks+3)
	for _, n := range []int{api.MaxBlocks - 1, api.MaxBlocks, api.MaxBlocks + 1, api.MaxBlocks + 3} {
		most := min(n, api.MaxBlocks)
		for _, fuse := range []int{-1, 0, 1} {
			d := on(framed(blocks[:n]))
			d.Fuse = fuse
			got := isOpened(t, d)
			if fuse == 0 && n > most {
				if !got.Store.Broken || got.Why != api.ErrDown {
					t.Errorf("%d blocks, fuse 0: %s", n, show(got))
				}
				continue
			}
			if len(got.Store.Ledger.Blocks) != most || got.Store.Disk.Data != framed(blocks[:most]) || got.Why != api.OK {
				t.Errorf("%d blocks: %d stand", n, len(got.Store.Ledger.Blocks))
			}
		}
	}
	// One that can't be among too many.
	wrong := behind(t, behind(t, blocks[:200], []api.Rev{tableRev("t")}), many(100, func(i int) []api.Rev {
		return []api.Rev{putRev("t", 1, uint64(i+199), doc())}
	})...)
	if got := isOpened(t, on(framed(wrong))); len(got.Store.Ledger.Blocks) != 200 {
		t.Errorf("%d stand", len(got.Store.Ledger.Blocks))
	}
}

// 19.7: opening what was opened comes to the same, whatever it was, and whatever was broken off.
func TestOpenAgain(t *testing.T) {
	s := small(t)
	blocks := s.Ledger.Blocks
	datas := []string{"", "junk", s.Disk.Data, s.Disk.Data + "junk", framed(append(blocks[:3:3], behind(t, blocks, []api.Rev{tableRev("t")})[3]))}
	for i := 0; i < len(s.Disk.Data); i += 17 {
		datas = append(datas, s.Disk.Data[:i])
	}
	for _, data := range datas {
		for _, synced := range []int{0, len(data) / 2, len(data)} {
			d := api.Disk{Data: data, Synced: synced, Cap: api.MaxDisk, Fuse: -1}
			first := isOpened(t, d).Store
			if again := isOpened(t, first.Disk); !same(again, told{Store: first}) {
				t.Fatalf("19.7: %s, again %s", show(first), show(again))
			}
			d.Fuse = 0
			off := isOpened(t, d)
			if !off.Store.Broken {
				continue
			}
			if store.Check(off.Store) != api.OK {
				t.Fatalf("an opening that was broken off is not right: %s", show(off))
			}
			loose := len(data) - synced
			for _, keep := range []int{-1, 0, 1, loose / 3, loose / 2, loose - 1, loose, loose + 1} {
				kept := synced + min(max(keep, 0), loose)
				want := isOpened(t, api.Disk{Data: data[:kept], Synced: kept, Cap: d.Cap, Fuse: -1})
				if got := met(t, off.Store, crash(keep), api.OK); !same(got, want) {
					t.Fatalf("19.7: %s, not %s", show(got), show(want))
				}
			}
			// All bytes being kept, it is as if nothing was broken off.
			if got := met(t, off.Store, crash(len(data)), api.OK).Store; !same(got, first) {
				t.Fatalf("19.7: %s, not %s", show(got), show(first))
			}
		}
	}
}
