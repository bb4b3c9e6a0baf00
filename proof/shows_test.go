package proof_test

import (
	"math"
	"math/rand"
	"testing"

	"codicil/api"
	"codicil/proof"
)

// showsAsSaid fails, unless Shows answers what the chapter says, and leaves what it was handed; it tells the answer.
func showsAsSaid(t *testing.T, top api.Tip, r api.Rev, p api.Proof) bool {
	t.Helper()
	ahead, was := twin(p), twin(r)
	want := saidShows(top, r, p)
	if got := proof.Shows(top, r, p); got != want {
		t.Errorf("Shows(%s, %s, %s): %v", show(top), show(r), show(p), got)
	}
	if !same(p, ahead) || !same(r, was) {
		t.Errorf("Shows changed what it was handed: %s, %s", show(r), show(p))
	}
	return want
}

// otherHeads are heads that are unlike one in one part each.
func otherHeads(h api.Head) []api.Head {
	var out []api.Head
	with := func(change func(h *api.Head)) {
		x := h
		change(&x)
		out = append(out, x)
	}
	for _, n := range []uint64{0, 1, 2, 3, 4, 5, 6, h.Seq - 1, h.Seq + 1, h.Seq + 1<<32, h.Seq + 1<<63, 257, math.MaxInt64, math.MaxUint64} {
		if n != h.Seq {
			with(func(h *api.Head) { h.Seq = n })
		}
	}
	for _, n := range []uint64{0, h.Revs - 1, h.Revs + 1, 2 * h.Revs, h.Revs + 1<<32, h.Revs + 1<<63, 64, 65, 1024, 1025, math.MaxInt64, math.MaxUint64} {
		if n != h.Revs {
			with(func(h *api.Head) { h.Revs = n })
		}
	}
	for _, of := range []func(s string) string{
		func(s string) string { return other(s, 0) },
		func(s string) string { return other(s, 31) },
		func(s string) string { return s[:31] },
		func(s string) string { return s + "\x00" },
		func(s string) string { return "" },
		func(s string) string { return xs(1025) },
	} {
		with(func(h *api.Head) { h.Prev = of(h.Prev) })
		with(func(h *api.Head) { h.Root = of(h.Root) })
		with(func(h *api.Head) { h.Statements = of(h.Statements) })
	}
	return out
}

// otherRevs are revisions that are unlike one in one part each, some of them not right.
func otherRevs(r api.Rev) []api.Rev {
	var out []api.Rev
	with := func(change func(r *api.Rev)) {
		x := twin(r)
		change(&x)
		out = append(out, x)
	}
	for _, kind := range []api.RevKind{api.RevNone, api.RevTable, api.RevIndex, api.RevPut, api.RevDrop, api.RevCount, 255} {
		if kind != r.Kind {
			with(func(r *api.Rev) { r.Kind = kind })
		}
	}
	with(func(r *api.Rev) { r.Table += "x" })
	with(func(r *api.Rev) { r.Table = "" })
	with(func(r *api.Rev) { r.Table = "\xff" })
	with(func(r *api.Rev) { r.Table = xs(1025) })
	with(func(r *api.Rev) { r.Doc++ })
	with(func(r *api.Rev) { r.Doc = math.MaxUint64 })
	with(func(r *api.Rev) { r.Version++ })
	with(func(r *api.Rev) { r.Version-- })
	with(func(r *api.Rev) { r.Version += 1 << 32 })
	with(func(r *api.Rev) { r.Value = doc("other", number(1)) })
	with(func(r *api.Rev) { r.Value = number(1) })
	with(func(r *api.Rev) { r.Value.B = true })
	with(func(r *api.Rev) { *r = api.Rev{} })
	return out
}

// changedProofs are proofs that are unlike one in one part each.
func changedProofs(p api.Proof) []api.Proof {
	var out []api.Proof
	for _, h := range otherHeads(p.Head) {
		x := p
		x.Head = h
		out = append(out, x)
	}
	for _, i := range []int{-1, 0, 1, 2, p.Index - 1, p.Index + 1, p.Index + 1<<32, 63, 64, math.MaxInt, math.MinInt} {
		if i != p.Index {
			x := p
			x.Index = i
			out = append(out, x)
		}
	}
	for _, l := range others(p.Path) {
		x := p
		x.Path = l
		out = append(out, x)
	}
	for _, l := range others(p.Blocks) {
		x := p
		x.Blocks = l
		out = append(out, x)
	}
	x := p
	x.Path, x.Blocks = p.Blocks, p.Path
	if !same(x, p) {
		out = append(out, x)
	}
	return append(out, api.Proof{})
}

// 18.1, 18.6: a proof or a revision of which a single part is changed shows nothing.
func TestChanged(t *testing.T) {
	l := story(t, 6)
	for _, a := range addresses(l) {
		got := prove(l, a.seq, a.index, a.n)
		top := tip(t, l, a.n)
		for _, p := range changedProofs(got.Proof) {
			if showsAsSaid(t, top, got.Rev, p) {
				t.Errorf("%v: %s shows", a, show(p))
			}
		}
		for _, r := range otherRevs(got.Rev) {
			if showsAsSaid(t, top, r, got.Proof) {
				t.Errorf("%v: %s is shown", a, show(r))
			}
		}
	}
}

// 18.1: tips of which a part is changed; another Seq may be shown, if the places are as they were.
func TestChangedTips(t *testing.T) {
	l := story(t, 6)
	shown := 0
	for _, a := range addresses(l) {
		got := prove(l, a.seq, a.index, a.n)
		top := tip(t, l, a.n)
		for _, s := range []string{other(top.Root, 0), other(top.Root, 31), nought, "", top.Root[:31], top.Root + "\x00", got.Proof.Head.Root} {
			if showsAsSaid(t, api.Tip{Seq: top.Seq, Root: s}, got.Rev, got.Proof) {
				t.Errorf("%v is shown under %x", a, s)
			}
		}
		for _, seq := range []uint64{0, a.n - 1, a.n + 1, a.n + 2, 2 * a.n, 256, 257, 1024, 1025, a.n + 1<<32, a.n + 1<<63, math.MaxUint64} {
			if seq != a.n && showsAsSaid(t, api.Tip{Seq: seq, Root: top.Root}, got.Rev, got.Proof) {
				shown++
			}
		}
		if showsAsSaid(t, api.Tip{}, got.Rev, got.Proof) {
			t.Errorf("%v is shown under nothing", a)
		}
	}
	if shown == 0 {
		t.Error("no place is the same under another Seq")
	}
}

// 18.1: each revision under each other address's proof.
func TestOtherAddresses(t *testing.T) {
	l := story(t, 5)
	top := tip(t, l, 5)
	for _, b := range addresses(l) {
		if b.n != 5 {
			continue
		}
		p := prove(l, b.seq, b.index, 5).Proof
		for _, a := range addresses(l) {
			if a.n != 5 {
				continue
			}
			if shown := showsAsSaid(t, top, l.Blocks[a.seq-1].Revs[a.index], p); shown != (a == b) {
				t.Errorf("%v by the proof of %v: %v", a, b, shown)
			}
		}
	}
}

// blockOf is a head of revisions' texts, and the proof of one of them, made by hand.
func blockOf(seq uint64, texts []string, i int) api.Proof {
	h := api.Head{Seq: seq, Prev: nought, Root: root(texts), Revs: uint64(len(texts)), Statements: nought}
	return api.Proof{Index: i, Head: h, Path: path(i, texts)}
}

// 18.1: Revs beyond MaxRevs, and Seqs beyond MaxBlocks, though the digests be right.
func TestBeyondLimits(t *testing.T) {
	for _, n := range []int{1, 2, 63, 64, 65, 66, 127, 128, 1024} {
		revs := many(n, func(i int) api.Rev { return putRev(uint64(i+1), 0, doc()) })
		texts := revTexts(api.Block{Revs: revs})
		for _, i := range []int{0, n / 2, n - 1} {
			p := blockOf(1, texts, i)
			if shown := showsAsSaid(t, api.Tip{Seq: 1, Root: leaf(headText(p.Head))}, revs[i], p); shown != (n <= 64) {
				t.Errorf("the revision %d of %d: %v", i, n, shown)
			}
		}
	}
	r := tableRev("t")
	texts := revTexts(api.Block{Revs: []api.Rev{r}})
	for _, n := range []int{1, 2, 255, 256, 257, 258, 512, 1024} {
		heads := many(n, func(i int) string { return headText(blockOf(uint64(i+1), texts, 0).Head) })
		for _, i := range []int{0, n / 2, n - 1} {
			p := blockOf(uint64(i+1), texts, 0)
			p.Blocks = path(i, heads)
			if shown := showsAsSaid(t, api.Tip{Seq: uint64(n), Root: root(heads)}, r, p); shown != (n <= 256) {
				t.Errorf("the block %d of %d: %v", i+1, n, shown)
			}
		}
	}
}

// 18.1: a Seq of 0 has no place, and one beyond the tip's has none.
func TestNoPlace(t *testing.T) {
	r := tableRev("t")
	texts := revTexts(api.Block{Revs: []api.Rev{r}})
	for _, seq := range []uint64{0, 1, 2, 3, 257, 1 << 32, 1<<32 + 1, 1 << 63, math.MaxUint64} {
		p := blockOf(seq, texts, 0)
		if shown := showsAsSaid(t, api.Tip{Seq: 1, Root: leaf(headText(p.Head))}, r, p); shown != (seq == 1) {
			t.Errorf("Seq %d of 1: %v", seq, shown)
		}
		if showsAsSaid(t, api.Tip{Seq: 0, Root: leaf(headText(p.Head))}, r, p) {
			t.Errorf("Seq %d of 0 is shown", seq)
		}
	}
}

// 18.1: a revision that has no text is not shown, be the digest that of nothing or of what it would be; a head that has none has nothing as its text.
func TestNoText(t *testing.T) {
	for _, r := range []api.Rev{{}, tableRev(""), tableRev("\xff"), tableRev(xs(1025)), tableRev(xs(1020)), putRev(1<<63, 0, doc()), putRev(1, 0, number(1)), {Kind: api.RevTable, Table: "t", Doc: 1}, {Kind: api.RevCount, Table: "t"}} {
		for _, text := range append(revTexts(api.Block{Revs: []api.Rev{r}}), "") {
			p := blockOf(1, []string{text}, 0)
			if showsAsSaid(t, api.Tip{Seq: 1, Root: leaf(headText(p.Head))}, r, p) {
				t.Errorf("%s is shown", show(r))
			}
		}
	}
	r := tableRev("t")
	p := blockOf(1, revTexts(api.Block{Revs: []api.Rev{r}}), 0)
	p.Head.Prev = xs(1025)
	if headText(p.Head) != "" || !showsAsSaid(t, api.Tip{Seq: 1, Root: leaf("")}, r, p) {
		t.Error("a head without a text")
	}
}

// 18.1: anything, made by chance.
func TestAnyProofs(t *testing.T) {
	m := rand.New(rand.NewSource(181))
	l := story(t, 7)
	tops := tips(t, l)
	var known []proved
	var under []uint64
	for _, a := range addresses(l) {
		known, under = append(known, prove(l, a.seq, a.index, a.n)), append(under, a.n)
	}
	shown := 0
	for range 4000 {
		i, j := m.Intn(len(known)), m.Intn(len(known))
		top, x, y := tops[under[i]], known[i], known[j]
		r, p := x.Rev, x.Proof
		for _, change := range []func(){
			func() { r = y.Rev },
			func() { p.Index = y.Proof.Index },
			func() { p.Head = y.Proof.Head },
			func() { p.Path = y.Proof.Path },
			func() { p.Blocks = y.Proof.Blocks },
			func() { top.Seq = under[j] },
			func() { top = tops[under[j]] },
		} {
			if m.Intn(6) == 0 {
				change()
			}
		}
		if showsAsSaid(t, top, r, p) {
			shown++
		}
	}
	if shown < 500 || shown > 3500 {
		t.Errorf("%d were shown", shown)
	}
}
