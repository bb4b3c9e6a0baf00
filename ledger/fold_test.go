package ledger_test

import (
	"slices"
	"testing"

	"codicil/api"
	"codicil/journal"
	"codicil/ledger"
)

// foldsTo fails, unless Fold answers what the chapter says, and leaves what it was handed; it tells whether the blocks are in a row.
func foldsTo(t *testing.T, name string, blocks []api.Block) bool {
	t.Helper()
	ahead := twin(blocks)
	states, is := inRow(blocks)
	want, prev, no := api.State{}, "", api.ErrChain
	if is {
		want, prev, no = states[len(blocks)], nought, api.OK
	}
	if is && len(blocks) > 0 {
		prev = digest(blocks[len(blocks)-1])
	}
	s, d, why := ledger.Fold(blocks)
	if !same(s, want) || d != prev || why != no {
		t.Errorf("%s: Fold(%s): %s, %x, error %d, not %s, %x, error %d", name, show(blocks), show(s), d, why, show(want), prev, no)
	}
	if !same(blocks, ahead) {
		t.Errorf("%s: Fold(%s) changed its blocks: %s", name, show(ahead), show(blocks))
	}
	return is
}

// 17.1: what blocks make, written out.
func TestFold(t *testing.T) {
	first := block(t, 1, nought, tableRev("t"), indexRev("t", "a"), putRev("t", 1, 0, doc("a", number(1))))
	second := block(t, 2, digest(first), putRev("t", 2, 0, doc()), putRev("t", 1, 1, doc("b", all(word("x")))))
	third := block(t, 3, digest(second), dropRev("t", 2, 1), tableRev("u"))
	one := api.State{Seq: 1, Last: 1, Tables: []api.Table{{Name: "t", Indexes: []string{"a"}, Docs: []api.Doc{
		{Id: 1, Versions: []api.Version{{Seq: 1, Value: doc("a", number(1))}}},
	}}}}
	three := api.State{Seq: 3, Last: 2, Tables: []api.Table{{Name: "t", Indexes: []string{"a"}, Docs: []api.Doc{
		{Id: 1, Versions: []api.Version{{Seq: 1, Value: doc("a", number(1))}, {Seq: 2, Value: doc("b", all(word("x")))}}},
		{Id: 2, Versions: []api.Version{{Seq: 2, Value: doc()}, {Seq: 3, Gone: true}}},
	}}, {Name: "u"}}}
	for _, x := range []struct {
		blocks []api.Block
		state  api.State
		prev   string
	}{
		{nil, api.State{}, nought},
		{[]api.Block{}, api.State{}, nought},
		{[]api.Block{first}, one, second.Prev},
		{[]api.Block{first, second, third}, three, digest(third)},
	} {
		if s, prev, why := ledger.Fold(x.blocks); !same(s, x.state) || prev != x.prev || why != api.OK {
			t.Errorf("Fold of %d blocks: %s, %x, error %d", len(x.blocks), show(s), prev, why)
		}
		foldsTo(t, "written out", x.blocks)
	}
}

// 17.1: blocks that are not in a row.
func TestNotInARow(t *testing.T) {
	l := small(t).Blocks
	if !foldsTo(t, "in a row", l) {
		t.Fatal("not in a row")
	}
	other := with(t, small(t), "INSERT INTO t {a: 9}").Blocks
	d := []string{nought, digest(l[0]), digest(l[1]), digest(l[2])}
	table := []api.Rev{tableRev("new")}
	for _, x := range []struct {
		name   string
		blocks []api.Block
	}{
		{"the first one left out", l[1:]},
		{"one left out", []api.Block{l[0], l[2]}},
		{"one twice", []api.Block{l[0], l[0]}},
		{"one twice, with new digests", []api.Block{l[0], l[1], block(t, 2, d[2], table...)}},
		{"the last one twice", append(slices.Clone(l), l[2])},
		{"two changed about", []api.Block{l[1], l[0], l[2]}},
		{"from 2 on", []api.Block{block(t, 2, nought, table...)}},
		{"a Seq left out", append(slices.Clone(l), block(t, 5, d[3], table...))},
		{"a Seq of long ago", append(slices.Clone(l), block(t, 1, d[3], table...))},
		{"the greatest Seq", append(slices.Clone(l), block(t, 1<<62, d[3], table...))},
		{"the first Prev is another one", []api.Block{block(t, 1, d[1], table...)}},
		{"the first Prev is unlike in its last byte", []api.Block{block(t, 1, nought[:31]+"\x01", table...)}},
		{"Prev is that ahead of all", append(slices.Clone(l), block(t, 4, nought, table...))},
		{"Prev is that of the one ahead of the last", append(slices.Clone(l), block(t, 4, d[2], table...))},
		{"Prev is that of another ledger", append(slices.Clone(l), block(t, 4, digest(other[3]), table...))},
		{"Prev is its own", append(slices.Clone(l), block(t, 4, digest(block(t, 4, d[3], table...)), table...))},
		{"a table twice", behind(t, l, []api.Rev{tableRev("t")})},
		{"a table twice, then a right one", behind(t, l, []api.Rev{tableRev("t")}, table)},
		{"an index of no table", behind(t, l, []api.Rev{indexRev("no", "a")})},
		{"a document that is not the next one", behind(t, l, []api.Rev{putRev("t", 6, 0, doc())})},
		{"a document that is there", behind(t, l, []api.Rev{putRev("t", 1, 0, doc())})},
		{"a version left out", behind(t, l, []api.Rev{putRev("t", 1, 2, doc())})},
		{"a document that is gone", behind(t, l, []api.Rev{putRev("t", 2, 2, doc())})},
		{"a later revision that can't be done", behind(t, l, []api.Rev{tableRev("new"), dropRev("new", 1, 1)})},
		{"the first one can't be applied", behind(t, nil, []api.Rev{putRev("t", 1, 0, doc())})},
	} {
		if foldsTo(t, x.name, x.blocks) {
			t.Errorf("%s: it is in a row", x.name)
		}
	}
	if !foldsTo(t, "one more", behind(t, l, table, []api.Rev{putRev("new", 5, 0, doc()), putRev("t", 1, 1, doc())})) {
		t.Error("one more: not in a row")
	}
}

// 17.1: blocks that are in a row, but for one that is not right.
func TestNotRightBlocks(t *testing.T) {
	for _, x := range []struct {
		name string
		with func(b *api.Block)
	}{
		{"Seq 0", func(b *api.Block) { b.Seq = 0 }},
		{"great Seq", func(b *api.Block) { b.Seq = 1<<62 + 1 }},
		{"greatest Seq", func(b *api.Block) { b.Seq = 1<<64 - 1 }},
		{"no Prev", func(b *api.Block) { b.Prev = "" }},
		{"long Prev", func(b *api.Block) { b.Prev += "x" }},
		{"no Root", func(b *api.Block) { b.Root = "" }},
		{"other Root", func(b *api.Block) { b.Root = nought }},
		{"other statements", func(b *api.Block) { b.Statements = append(b.Statements, "more") }},
		{"many statements", func(b *api.Block) { b.Statements = make([]string, 65) }},
		{"long statement", func(b *api.Block) { b.Statements = []string{xs(1025)} }},
		{"no UTF-8", func(b *api.Block) { b.Statements[0] = "\xff" }},
		{"no revisions", func(b *api.Block) { b.Revs = nil }},
		{"one revision less", func(b *api.Block) { b.Revs = b.Revs[1:] }},
		{"one revision more", func(b *api.Block) { b.Revs = append(b.Revs, tableRev("more")) }},
		{"another revision", func(b *api.Block) { b.Revs[0].Table += "x" }},
		{"no revision", func(b *api.Block) { b.Revs[0] = api.Rev{} }},
		{"zero", func(b *api.Block) { *b = api.Block{} }},
	} {
		for i := range 3 {
			l := twin(small(t).Blocks)
			x.with(&l[i])
			// Of the last block there is no digest that could be held against others.
			right := i == 2 && x.name == "other statements"
			if foldsTo(t, x.name, l) != right {
				t.Errorf("%s, block %d: in a row: %v", x.name, i, !right)
			}
		}
	}
	b := block(t, 1, nought, tableRev("t"))
	b.Statements = many(17, func(int) string { return xs(1000) })
	if journal.Check(b) != api.ErrLong || foldsTo(t, "long text", []api.Block{b}) {
		t.Error("a block with a long text is in a row")
	}
}

// 17.1: MaxBlocks blocks are in a row, one more are not.
func TestMostBlocks(t *testing.T) {
	l := long(t, api.MaxBlocks+1)
	for n, want := range map[int]bool{api.MaxBlocks - 1: true, api.MaxBlocks: true, api.MaxBlocks + 1: false} {
		if foldsTo(t, "many", l[:n]) != want {
			t.Errorf("%d blocks: in a row: %v", n, !want)
		}
	}
	foldsTo(t, "very many", make([]api.Block, 1<<16))
}
