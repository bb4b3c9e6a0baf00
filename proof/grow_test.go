package proof_test

import (
	"math"
	"testing"

	"codicil/api"
	"codicil/ledger"
	"codicil/proof"
	"codicil/sha"
)

// grewAsSaid fails, unless Grew answers what the chapter says, and leaves what it was handed; it tells the answer.
func grewAsSaid(t *testing.T, old, top api.Tip, growth []string) bool {
	t.Helper()
	ahead := twin(growth)
	want := saidGrew(old, top, growth)
	if got := proof.Grew(old, top, growth); got != want {
		t.Errorf("Grew(%s, %s, %s): %v", show(old), show(top), show(growth), got)
	}
	if !same(growth, ahead) {
		t.Errorf("Grew changed what it was handed: %s", show(growth))
	}
	return want
}

// growAsSaid fails, unless Grow answers what the chapter says; it tells the answer.
func growAsSaid(t *testing.T, l api.Ledger, m, n uint64) ([]string, api.Errno) {
	t.Helper()
	want, no := saidGrow(l, m, n)
	got, why := proof.Grow(l, m, n)
	if !same(got, want) || why != no {
		t.Errorf("Grow(%d, %d): %s, error %d, not %s, error %d", m, n, show(got), why, show(want), no)
	}
	return got, why
}

// 18.2, 18.7: each tip grew out of each one ahead of it.
func TestGrow(t *testing.T) {
	l := story(t, 9)
	ahead := twin(l)
	numbers := []uint64{0, 1, 2, 3, 4, 5, 6, 7, 8, 9, 10, 257, math.MaxInt64, math.MaxInt64 + 1, math.MaxUint64}
	for _, m := range numbers {
		for _, n := range numbers {
			growth, why := growAsSaid(t, l, m, n)
			if m > n || n > 9 {
				if why != api.ErrRange {
					t.Errorf("Grow(%d, %d): error %d", m, n, why)
				}
				continue
			}
			if why != api.OK || !grewAsSaid(t, tip(t, l, m), tip(t, l, n), growth) {
				t.Errorf("%d did not grow out of %d: error %d", n, m, why)
			}
			if (m == 0 || m == n) && len(growth) > 0 {
				t.Errorf("Grow(%d, %d): %s", m, n, show(growth))
			}
		}
	}
	if !same(l, ahead) {
		t.Errorf("Grow changed its ledger: %s", show(l))
	}
	growAsSaid(t, ledger.New(), 0, 0)
	growAsSaid(t, ledger.New(), 0, 1)
	growAsSaid(t, ledger.New(), 1, 0)
}

// 18.2: a growth of which a part is changed shows nothing, nor does one between other tips.
func TestOtherGrowths(t *testing.T) {
	l := story(t, 7)
	for m := range uint64(8) {
		for n := m; n <= 7; n++ {
			growth, _ := growAsSaid(t, l, m, n)
			old, top := tip(t, l, m), tip(t, l, n)
			for _, x := range others(growth) {
				if grewAsSaid(t, old, top, x) {
					t.Errorf("%s shows that %d grew out of %d", show(x), n, m)
				}
			}
			for _, s := range []string{other(old.Root, 0), other(old.Root, 31), old.Root[:31], old.Root + "\x00", "", nought} {
				if grewAsSaid(t, api.Tip{Seq: m, Root: s}, top, growth) {
					t.Errorf("%d grew out of %x", n, s)
				}
				// What grew out of nothing may be anything.
				if grewAsSaid(t, old, api.Tip{Seq: n, Root: s}, growth) != (m == 0 && n > 0) {
					t.Errorf("%x grew out of %d", s, m)
				}
			}
			for _, seq := range []uint64{0, 1, 2, 3, 4, 5, 6, 7, 8, 256, 257, 1024, 1025, n + 1<<32, m + 1<<32, n + 1<<63, m + 1<<63, math.MaxUint64} {
				grewAsSaid(t, api.Tip{Seq: seq, Root: old.Root}, top, growth)
				grewAsSaid(t, old, api.Tip{Seq: seq, Root: top.Root}, growth)
			}
			if m < n && m > 0 && grewAsSaid(t, top, old, growth) {
				t.Errorf("%d grew out of %d", m, n)
			}
		}
	}
}

// 18.2: Seqs up to MaxBlocks, and beyond, though the digests be right.
func TestGrewLimits(t *testing.T) {
	l := long(t, api.MaxBlocks)
	for _, m := range []uint64{0, 1, 127, 128, 129, 255, 256} {
		growth, why := growAsSaid(t, l, m, api.MaxBlocks)
		if why != api.OK || !grewAsSaid(t, tip(t, l, m), tip(t, l, api.MaxBlocks), growth) {
			t.Errorf("%d: error %d", m, why)
		}
	}
	texts := many(300, func(i int) string { return xs(i) })
	for _, n := range []int{255, 256, 257, 258, 300} {
		for _, m := range []int{1, 200, 255, 256, 257, 258} {
			if m >= n {
				continue
			}
			shown := grewAsSaid(t, api.Tip{Seq: uint64(m), Root: root(texts[:m])}, api.Tip{Seq: uint64(n), Root: root(texts[:n])}, growth(m, texts[:n], true))
			if shown != (n <= 256) {
				t.Errorf("%d out of %d: %v", n, m, shown)
			}
		}
		top := api.Tip{Seq: uint64(n), Root: root(texts[:n])}
		if grewAsSaid(t, top, top, nil) != (n <= 256) || grewAsSaid(t, api.Tip{Root: sha.Sum("")}, top, nil) != (n <= 256) {
			t.Errorf("%d out of itself, or of nothing", n)
		}
	}
}
