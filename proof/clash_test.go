package proof_test

import (
	"math"
	"testing"

	"codicil/api"
	"codicil/journal"
	"codicil/proof"
	"codicil/sha"
)

// noClash fails, unless Clash finds nothing, and leaves what it was handed.
func noClash(t *testing.T, name string, l api.Ledger, n uint64, r api.Rev, p api.Proof) {
	t.Helper()
	ahead, was, like := twin(l), twin(r), twin(p)
	if a, b, is := proof.Clash(l, n, r, p); a != "" || b != "" || is {
		t.Errorf("%s: Clash(%d, %s, %s): %q, %q, %v", name, n, show(r), show(p), a, b, is)
	}
	if !same(l, ahead) || !same(r, was) || !same(p, like) {
		t.Errorf("%s: Clash changed what it was handed", name)
	}
}

// 18.3: where the revision is the one that is there, n is beyond the blocks, or nothing is shown, nothing is found.
func TestNoClash(t *testing.T) {
	l := story(t, 4)
	for _, a := range addresses(l) {
		got := prove(l, a.seq, a.index, a.n)
		for _, n := range []uint64{0, 1, 2, 3, 4, 5, math.MaxUint64} {
			noClash(t, "the one that is there", l, n, got.Rev, got.Proof)
		}
		if a.n != 4 {
			continue
		}
		for _, p := range changedProofs(got.Proof) {
			noClash(t, "a changed proof", l, a.n, got.Rev, p)
		}
		for _, r := range otherRevs(got.Rev) {
			noClash(t, "another revision", l, a.n, r, got.Proof)
		}
	}
}

// 18.3: proofs of other ledgers show nothing of this one, though they show something of their own.
func TestNoClashOfOthers(t *testing.T) {
	l, x := story(t, 4), committed(t, story(t, 3), "INSERT INTO t {other: 1}")
	for _, a := range addresses(x) {
		got := prove(x, a.seq, a.index, a.n)
		if !proof.Shows(tip(t, x, a.n), got.Rev, got.Proof) {
			t.Errorf("%v is not shown", a)
		}
		noClash(t, "another ledger", l, a.n, got.Rev, got.Proof)
		noClash(t, "another ledger", x, a.n, got.Rev, got.Proof)
	}
	made := blockOf(1, []string{"made by hand"}, 0)
	noClash(t, "by hand", l, 4, tableRev("t"), made)
	noClash(t, "zero", l, 4, api.Rev{}, api.Proof{})
	noClash(t, "zero", l, 0, api.Rev{}, api.Proof{})
}

// A revision's text and a head's are what journal says, here and in the model.
func TestTexts(t *testing.T) {
	l := story(t, 5)
	for _, b := range l.Blocks {
		for i, text := range revTexts(b) {
			if got, why := journal.RevText(b.Revs[i]); got != text || why != api.OK {
				t.Errorf("RevText: %q, error %d, not %q", got, why, text)
			}
		}
		if h, _ := journal.Short(b); h != headOf(b) || journal.HeadText(h) != headText(h) || journal.Digest(h) != sha.Sum(headText(h)) {
			t.Errorf("Short: %s", show(h))
		}
	}
}
