package proof_test

import (
	"math"
	"math/bits"
	"testing"

	"codicil/api"
	"codicil/ledger"
	"codicil/proof"
	"codicil/sha"
)

// 18.1: tips behind none, some and all blocks, and beyond.
func TestTip(t *testing.T) {
	for blocks := range 10 {
		l := story(t, blocks)
		ahead := twin(l)
		for _, n := range []uint64{0, 1, 2, 3, 4, 5, 6, 7, 8, 9, 10, math.MaxInt64, math.MaxInt64 + 1, math.MaxUint64} {
			want, no := saidTip(l, n)
			if got, why := proof.Tip(l, n); got != want || why != no {
				t.Errorf("Tip behind %d of %d: %s, error %d, not %s, error %d", n, blocks, show(got), why, show(want), no)
			}
			if (no == api.OK) != (n <= uint64(blocks)) {
				t.Errorf("Tip behind %d of %d: error %d", n, blocks, no)
			}
		}
		if !same(l, ahead) {
			t.Errorf("Tip changed its ledger: %s", show(l))
		}
	}
	l := story(t, 3)
	texts := headTexts(l, 3)
	for n, want := range []string{sha.Sum(""), leaf(texts[0]), node(leaf(texts[0]), leaf(texts[1])), node(node(leaf(texts[0]), leaf(texts[1])), leaf(texts[2]))} {
		if got := tip(t, l, uint64(n)); got != (api.Tip{Seq: uint64(n), Root: want}) {
			t.Errorf("Tip behind %d: %s", n, show(got))
		}
	}
	if got := tip(t, ledger.New(), 0); got != (api.Tip{Root: sha.Sum("")}) {
		t.Errorf("Tip of nothing: %s", show(got))
	}
}

// proveAsSaid fails, unless Prove answers what the chapter says, and leaves what it was handed; it tells the answer.
func proveAsSaid(t *testing.T, l api.Ledger, seq uint64, index int, n uint64) proved {
	t.Helper()
	want := saidProve(l, seq, index, n)
	got := prove(l, seq, index, n)
	if !same(got, want) {
		t.Errorf("Prove(%d, %d, %d): %s, not %s", seq, index, n, show(got), show(want))
	}
	return got
}

// 18.1: addresses at all edges and beyond.
func TestProve(t *testing.T) {
	for blocks := range 6 {
		l := story(t, blocks)
		ahead := twin(l)
		count := map[api.Errno]int{}
		for _, n := range []uint64{0, 1, 2, 3, 4, 5, 6, math.MaxUint64} {
			for _, seq := range []uint64{0, 1, 2, 3, 4, 5, 6, 1 << 62, 1 << 63, math.MaxUint64} {
				for _, index := range []int{math.MinInt, -1, 0, 1, 2, 3, 4, 5, 6, 7, 8, 64, math.MaxInt} {
					count[proveAsSaid(t, l, seq, index, n).Why]++
				}
			}
		}
		if want := len(addresses(l)); count[api.OK] != want || count[api.ErrRange] != 8*10*13-want {
			t.Errorf("%d blocks: %v, not %d addresses", blocks, count, want)
		}
		if !same(l, ahead) {
			t.Errorf("Prove changed its ledger: %s", show(l))
		}
	}
	l := story(t, 3)
	last := len(l.Blocks[1].Revs) - 1
	for _, x := range []struct {
		address
		why api.Errno
	}{
		{address{0, 0, 3}, api.ErrRange},
		{address{3, 0, 3}, api.OK},
		{address{4, 0, 3}, api.ErrRange},
		{address{3, 0, 2}, api.ErrRange},
		{address{2, 0, 2}, api.OK},
		{address{2, -1, 3}, api.ErrRange},
		{address{2, last, 3}, api.OK},
		{address{2, last + 1, 3}, api.ErrRange},
		{address{2, 0, 4}, api.ErrRange},
	} {
		if got := proveAsSaid(t, l, x.seq, x.index, x.n); got.Why != x.why {
			t.Errorf("Prove(%d, %d, %d): error %d", x.seq, x.index, x.n, got.Why)
		}
	}
}

// The chapter's example.
func TestExample(t *testing.T) {
	l := committed(t, ledger.New(), "CREATE TABLE t")
	got := prove(l, 1, 0, 1)
	if !same(got, proved{Rev: tableRev("t"), Proof: api.Proof{Head: headOf(l.Blocks[0])}}) {
		t.Errorf("Prove: %s", show(got))
	}
	if !proof.Shows(tip(t, l, 1), got.Rev, got.Proof) || proof.Shows(tip(t, l, 0), got.Rev, got.Proof) {
		t.Error("Shows")
	}
}

// 18.5, 18.8: each revision is shown by its proof under each tip from its block on, which has few digests.
func TestShown(t *testing.T) {
	for blocks := range 10 {
		l := story(t, blocks)
		tops := tips(t, l)
		for _, a := range addresses(l) {
			got := proveAsSaid(t, l, a.seq, a.index, a.n)
			top := tops[a.n]
			if !proof.Shows(top, got.Rev, got.Proof) || !saidShows(top, got.Rev, got.Proof) {
				t.Errorf("%v of %d blocks is not shown", a, blocks)
			}
			p := got.Proof
			revs := len(l.Blocks[a.seq-1].Revs)
			if len(p.Path)+len(p.Blocks) > bits.Len64(a.n)+bits.Len(uint(revs)) {
				t.Errorf("%v of %d blocks: %d and %d digests", a, blocks, len(p.Path), len(p.Blocks))
			}
			for _, top := range tops {
				showsAsSaid(t, top, got.Rev, p)
			}
		}
	}
}

// 18.5, 18.8: a ledger of MaxBlocks blocks, and a block of MaxRevs revisions.
func TestShownAtLimits(t *testing.T) {
	l := long(t, api.MaxBlocks)
	for _, a := range []address{{1, 0, 256}, {2, 0, 256}, {128, 0, 256}, {129, 0, 256}, {255, 0, 256}, {256, 0, 256}, {255, 0, 255}, {128, 0, 129}} {
		got := proveAsSaid(t, l, a.seq, a.index, a.n)
		if len(got.Proof.Path) != 0 || len(got.Proof.Blocks) > 9 || !showsAsSaid(t, tip(t, l, a.n), got.Rev, got.Proof) {
			t.Errorf("%v: %s", a, show(got))
		}
	}
	if _, why := proof.Tip(l, api.MaxBlocks+1); why != api.ErrRange {
		t.Errorf("one more: error %d", why)
	}
	l = of(t, append([]api.Rev{tableRev("t")}, many(api.MaxRevs-1, func(i int) api.Rev { return putRev(uint64(i+1), 0, doc()) })...))
	for _, i := range []int{0, 1, 31, 32, 62, 63} {
		got := proveAsSaid(t, l, 1, i, 1)
		if len(got.Proof.Path) != 6 || len(got.Proof.Blocks) != 0 || !showsAsSaid(t, tip(t, l, 1), got.Rev, got.Proof) {
			t.Errorf("%d: %s", i, show(got))
		}
	}
	proveAsSaid(t, l, 1, api.MaxRevs, 1)
}

// notRight are ledgers that are not right, each in another way.
func notRight(t *testing.T) []api.Ledger {
	from := story(t, 3)
	var out []api.Ledger
	for _, with := range []func(l *api.Ledger){
		func(l *api.Ledger) { *l = api.Ledger{} },
		func(l *api.Ledger) { l.Prev = nought },
		func(l *api.Ledger) { l.State.Last++ },
		func(l *api.Ledger) { l.Blocks = l.Blocks[:2] },
		func(l *api.Ledger) { l.Blocks = l.Blocks[1:] },
		func(l *api.Ledger) { l.Blocks[1].Revs = nil },
		func(l *api.Ledger) { l.Blocks[2].Statements = nil },
		func(l *api.Ledger) { l.Sessions[0].Id = 0 },
		func(l *api.Ledger) { l.Sessions[0].View.Base.Seq = 1 },
		func(l *api.Ledger) { l.Sessions = make([]api.Session, 9) },
		func(l *api.Ledger) { l.Blocks = make([]api.Block, 1<<16) },
	} {
		l := twin(from)
		with(&l)
		out = append(out, l)
	}
	return out
}

// 18.1 to 18.3: ledgers that are not right have ledger.Check's error ahead of all else.
func TestNotRight(t *testing.T) {
	from := story(t, 3)
	good := prove(from, 2, 0, 3)
	for i, l := range notRight(t) {
		for _, n := range []uint64{0, 1, 3, 4, math.MaxUint64} {
			if got, why := proof.Tip(l, n); got != (api.Tip{}) || why != api.ErrState {
				t.Errorf("%d: Tip: %s, error %d", i, show(got), why)
			}
			for _, seq := range []uint64{0, 1, 3, 4} {
				if got := prove(l, seq, 0, n); !same(got, proved{Why: api.ErrState}) {
					t.Errorf("%d: Prove: %s", i, show(got))
				}
				if got, why := proof.Grow(l, seq, n); len(got) > 0 || why != api.ErrState {
					t.Errorf("%d: Grow: %s, error %d", i, show(got), why)
				}
			}
			for _, r := range []api.Rev{good.Rev, tableRev("x"), {}} {
				if a, b, is := proof.Clash(l, n, r, good.Proof); a != "" || b != "" || is {
					t.Errorf("%d: Clash: %q, %q, %v", i, a, b, is)
				}
			}
		}
	}
}
