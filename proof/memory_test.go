package proof_test

import (
	"runtime"
	"slices"
	"testing"

	"codicil/api"
	"codicil/proof"
)

// 18.4: answers are new memory, in all their lists and texts.
func TestNewMemory(t *testing.T) {
	l := story(t, 6)
	for _, a := range append(addresses(l), address{0, 0, 3}, address{1, 0, 9}) {
		got, again := prove(l, a.seq, a.index, a.n), prove(l, a.seq, a.index, a.n)
		apart(t, got, l, again)
		if !same(got, again) {
			t.Fatalf("%v: %s, then %s", a, show(got), show(again))
		}
	}
	for m := range uint64(8) {
		top, _ := proof.Tip(l, m)
		again, _ := proof.Tip(l, m)
		apart(t, top, l, again)
		for n := range uint64(8) {
			growth, why := proof.Grow(l, m, n)
			other, no := proof.Grow(l, m, n)
			apart(t, growth, l, other)
			if !same(growth, other) || why != no {
				t.Fatalf("Grow(%d, %d): %s, then %s", m, n, show(growth), show(other))
			}
		}
	}
}

// 18.4: nothing of what is handed in is kept.
func TestKeepsNothing(t *testing.T) {
	from := story(t, 6)
	for _, a := range addresses(from) {
		want, top := prove(from, a.seq, a.index, a.n), tip(t, from, a.n)
		growth, _ := proof.Grow(from, a.seq, a.n)
		l, spoil := lent(from)
		got := prove(l, a.seq, a.index, a.n)
		mine, _ := proof.Tip(l, a.n)
		own, _ := proof.Grow(l, a.seq, a.n)
		spoil()
		if !same(got, want) || mine != top || !same(own, growth) {
			t.Fatalf("%v: %s, not %s", a, show(got), show(want))
		}
	}
}

// 18.4: room behind lists is not written to, and hangs nothing on it; nil and empty lists are alike (P1, P3).
func TestLeavesRoom(t *testing.T) {
	l := story(t, 5)
	x := twin(l)
	x.Blocks = append(make([]api.Block, 0, 99), x.Blocks...)
	for i := range x.Blocks {
		x.Blocks[i].Revs = append(make([]api.Rev, 0, 99), x.Blocks[i].Revs...)
	}
	x.Sessions[0].Reads = []api.Read{}
	for _, a := range addresses(l) {
		want := prove(l, a.seq, a.index, a.n)
		got := prove(x, a.seq, a.index, a.n)
		if !same(got, want) || !same(x, l) || !same(x.Blocks[5:99], make([]api.Block, 94)) {
			t.Fatalf("%v: %s, not %s", a, show(got), show(want))
		}
		p := want.Proof
		p.Path = append(make([]string, 0, 99), p.Path...)
		p.Blocks = append(make([]string, 0, 99), p.Blocks...)
		if !proof.Shows(tip(t, l, a.n), want.Rev, p) || slices.ContainsFunc(p.Blocks[len(p.Blocks):99], func(s string) bool { return s != "" }) {
			t.Fatalf("%v is not shown", a)
		}
	}
}

// P1: great things made by hand.
func TestGreatOnes(t *testing.T) {
	l := story(t, 3)
	got := prove(l, 2, 0, 3)
	top := tip(t, l, 3)
	deep := all()
	for range 1 << 16 {
		deep = all(deep)
	}
	much := make([]string, 1<<16)
	for _, x := range []api.Proof{
		{Head: got.Proof.Head, Path: much, Blocks: got.Proof.Blocks},
		{Head: got.Proof.Head, Path: got.Proof.Path, Blocks: much},
		{Head: api.Head{Seq: 1, Prev: xs(1 << 20), Root: xs(1 << 20), Statements: xs(1 << 20)}},
	} {
		if proof.Shows(top, got.Rev, x) {
			t.Error("a great proof shows")
		}
		noClash(t, "great", l, 3, got.Rev, x)
	}
	r := got.Rev
	r.Value = deep
	if proof.Shows(top, r, got.Proof) || proof.Grew(top, top, much) {
		t.Error("a great one is shown")
	}
	noClash(t, "deep", l, 3, r, got.Proof)
}

// P4: no goroutine is left.
func TestNoGoroutineLeft(t *testing.T) {
	ahead := runtime.NumGoroutine()
	l := story(t, 4)
	for _, a := range addresses(l) {
		got := prove(l, a.seq, a.index, a.n)
		growth, _ := proof.Grow(l, a.seq, a.n)
		proof.Grew(tip(t, l, a.seq), tip(t, l, a.n), growth)
		proof.Clash(l, a.n, tableRev("x"), got.Proof)
	}
	if now := runtime.NumGoroutine(); now > ahead {
		t.Errorf("%d goroutines, ahead of it %d", now, ahead)
	}
}
