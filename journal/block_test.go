package journal_test

import (
	"math"
	"math/rand"
	"strings"
	"testing"

	"codicil/api"
	"codicil/journal"
)

// blockFault is something that makes a right block wrong, in one part of it; what is mute is not to be seen in its text.
type blockFault struct {
	part  string
	why   api.Errno
	mute  bool
	spoil func(b *api.Block)
}

// blockFaults are in the order in which they tell.
func blockFaults() []blockFault {
	var out []blockFault
	add := func(part string, why api.Errno, spoil func(b *api.Block)) {
		out = append(out, blockFault{part, why, false, spoil})
	}
	for _, seq := range []uint64{0, 1<<62 + 1, 1 << 63, math.MaxUint64} {
		add("seq", api.ErrRange, func(b *api.Block) { b.Seq = seq })
	}
	for _, n := range []int{0, 1, 31, 33, 64, 1 << 16} {
		add("prev", api.ErrLong, func(b *api.Block) { b.Prev = xs(n) })
		add("root", api.ErrLong, func(b *api.Block) { b.Root = (b.Root + xs(1<<16))[:n] })
	}
	add("statements", api.ErrMany, func(b *api.Block) { b.Statements = times(api.MaxParts+1, "") })
	add("statements", api.ErrMany, func(b *api.Block) { b.Statements = times(api.MaxParts+1, "\xff") })
	add("revs", api.ErrMany, func(b *api.Block) { b.Revs = nil })
	add("revs", api.ErrMany, func(b *api.Block) { b.Revs = []api.Rev{} })
	add("revs", api.ErrMany, func(b *api.Block) { b.Revs = times(api.MaxRevs+1, table("t")) })
	add("revs", api.ErrMany, func(b *api.Block) { b.Revs = times(api.MaxRevs+1, api.Rev{}) })
	for _, l := range [][]string{{xs(api.MaxText + 1)}, {"x", xs(api.MaxText) + "\xff"}, {xs(api.MaxText + 1), "\xff"}} {
		add("statements", api.ErrLong, func(b *api.Block) { b.Statements = l })
	}
	for _, l := range [][]string{{"\xff"}, {"", "é\xc3"}, {xs(api.MaxText-1) + "\xff"}, {"\xff", xs(api.MaxText + 1)}} {
		add("statements", api.ErrUtf, func(b *api.Block) { b.Statements = l })
	}
	for _, right := range rightRevs() {
		for _, f := range revFaults(right.Kind) {
			r := right
			f.spoil(&r)
			add("revs", f.why, func(b *api.Block) { b.Revs = []api.Rev{table("t"), r} })
			out[len(out)-1].mute = f.mute
		}
	}
	// Each revision is looked at as a whole, its text too, ahead of the next one.
	add("revs", api.ErrLong, func(b *api.Block) { b.Revs = []api.Rev{table(xs(api.MaxText)), {}} })
	add("revs", api.ErrType, func(b *api.Block) { b.Revs = []api.Rev{{}, table(xs(api.MaxText))} })
	add("revs", api.ErrUtf, func(b *api.Block) { b.Revs = []api.Rev{table("t"), table("\xff"), drop("t", 1<<63, 0)} })
	for _, root := range []string{first, xs(32), rootOf("x"), rootOf()} {
		add("root", api.ErrForm, func(b *api.Block) { b.Root = root })
	}
	add("root", api.ErrForm, func(b *api.Block) { b.Root = "\x00" + b.Root[1:] })
	add("root", api.ErrForm, func(b *api.Block) { b.Root = b.Root[:31] + string([]byte{b.Root[31] ^ 1}) })
	add("statements", api.ErrLong, func(b *api.Block) { b.Statements = times(16, xs(api.MaxText)) })
	add("revs", api.ErrLong, func(b *api.Block) { b.Revs = times(api.MaxRevs, table(xs(1000))) })
	return out
}

// spoiled is a block with some faults; its Root is that of its revisions, unless that is the fault.
func spoiled(faults ...blockFault) api.Block {
	b := block(2, sum("prev"), []string{"one", "two"}, rightRevs()...)
	for _, f := range faults {
		if f.part != "root" {
			f.spoil(&b)
		}
	}
	b.Root = rootOfRevs(b.Revs)
	for _, f := range faults {
		if f.part == "root" {
			f.spoil(&b)
		}
	}
	return b
}

// refused fails, unless all calls refuse a block with that error.
func refused(t *testing.T, b api.Block, want api.Errno) {
	t.Helper()
	if why := journal.Check(b); why != want {
		t.Fatalf("Check(%s) = %d, not %d", show(b), why, want)
	}
	if s, why := journal.Text(b); s != "" || why != want {
		t.Fatalf("Text(%s) = %x, error %d, not %d", show(b), s, why, want)
	}
	if h, why := journal.Short(b); h != (api.Head{}) || why != want {
		t.Fatalf("Short(%s) = %v, error %d, not %d", show(b), h, why, want)
	}
	if s, why := journal.Frame(b); s != "" || why != want {
		t.Fatalf("Frame(%s) = %x, error %d, not %d", show(b), s, why, want)
	}
}

// notMade fails, unless Make refuses the parts of a block with that error.
func notMade(t *testing.T, b api.Block, want api.Errno) {
	t.Helper()
	if got, why := journal.Make(b.Seq, b.Prev, b.Statements, b.Revs); !zero(got) || why != want {
		t.Fatalf("Make of %s: %v, error %d, not %d", show(b), got, why, want)
	}
}

func TestWrongBlocks(t *testing.T) {
	for _, f := range blockFaults() {
		refused(t, spoiled(f), f.why)
		if f.part != "root" {
			notMade(t, spoiled(f), f.why)
		}
	}
}

// Of two faults the one that the chapter names first is told.
func TestTwiceWrongBlocks(t *testing.T) {
	faults := blockFaults()
	for i, f := range faults {
		for _, g := range faults[i+1:] {
			if f.part == g.part {
				continue
			}
			b := spoiled(f, g)
			if why := journal.Check(b); why != f.why {
				t.Fatalf("Check(%s) = %d, not %d", show(b), why, f.why)
			}
			if f.part != "root" && g.part != "root" {
				notMade(t, b, f.why)
			}
		}
	}
}

// rightBlocks are such as are at the edges, among ordinary ones.
func rightBlocks() []api.Block {
	one := table("t")
	return []api.Block{
		block(1, first, nil, one),
		block(1, first, []string{}, one),
		block(1, first, []string{"x"}, rightRevs()...),
		block(2, sum("x"), []string{"", "é", ""}, one, one),
		block(1<<62-1, strings.Repeat("\xff", 32), nil, one),
		block(1<<62, first, nil, one),
		block(1, first, times(api.MaxParts, ""), one),
		block(1, first, times(api.MaxParts, "statement"), times(api.MaxRevs, drop("t", 1<<62, 1<<62))...),
		block(1, first, []string{xs(api.MaxText)}, one),
		block(1, first, times(15, strings.Repeat("é", api.MaxText/2)), one),
		block(1, first, nil, times(14, table(xs(api.MaxText-12)))...),
		block(1, first, nil, put("t", 1, 0, within(api.MaxDepth-1, api.Value{}))),
		sizedBlock(api.MaxBytes - 1),
		sizedBlock(api.MaxBytes),
	}
}

// held fails, unless all calls answer what the chapter says of a right block.
func held(t *testing.T, b api.Block) {
	t.Helper()
	if why := journal.Check(b); why != api.OK {
		t.Fatalf("Check(%s) = %d", show(b), why)
	}
	if got, why := journal.Make(b.Seq, b.Prev, b.Statements, b.Revs); !same(got, b) || why != api.OK {
		t.Fatalf("Make of %s: %v, error %d", show(b), got, why)
	}
	s, why := journal.Text(b)
	if s != blockBytes(b) || why != api.OK {
		t.Fatalf("Text(%s) = %x, error %d", show(b), s, why)
	}
	if got, why := journal.Read(s); !same(got, b) || why != api.OK {
		t.Fatalf("Read(%x) = %v, error %d", s, got, why)
	}
	if h, why := journal.Short(b); h != headOf(b) || why != api.OK {
		t.Fatalf("Short(%s) = %v, error %d", show(b), h, why)
	}
	if f, why := journal.Frame(b); f != framed(s) || why != api.OK {
		t.Fatalf("Frame(%s) = %x, error %d", show(b), f, why)
	}
}

func TestRightBlocks(t *testing.T) {
	for _, b := range rightBlocks() {
		held(t, b)
	}
}

func TestAnyBlocks(t *testing.T) {
	r := rand.New(rand.NewSource(6))
	for range 2000 {
		held(t, anyBlock(r))
	}
}

// Every number of revisions has the root that the tree of so many texts has.
func TestRoots(t *testing.T) {
	var revs []api.Rev
	for i := range api.MaxRevs {
		revs = append(revs, drop("t", uint64(i), 1))
		held(t, block(1, first, nil, revs...))
	}
}

func TestLongestBlocks(t *testing.T) {
	for n := api.MaxBytes + 1; n < api.MaxBytes+4; n++ {
		b := sizedBlock(n)
		if len(blockBytes(b)) != n {
			t.Fatalf("a text of %d bytes", len(blockBytes(b)))
		}
		refused(t, b, api.ErrLong)
		notMade(t, b, api.ErrLong)
		b.Root = first
		refused(t, b, api.ErrForm)
	}
	if s, why := journal.Text(sizedBlock(api.MaxBytes)); len(s) != api.MaxBytes || why != api.OK {
		t.Errorf("Text: %d bytes, error %d", len(s), why)
	}
}

func TestExample(t *testing.T) {
	b, why := journal.Make(1, first, nil, []api.Rev{table("t")})
	if s, _ := journal.RevText(table("t")); b.Root != sum("\x00"+s) || why != api.OK {
		t.Errorf("Make: %v, error %d", b, why)
	}
}

// A block's text, byte by byte.
func TestTextSample(t *testing.T) {
	b := block(3, xs(32), []string{"ab", ""}, table("t"))
	want := "\x06\x05" + "\x03\x06" + "\x05\x20" + xs(32) + "\x05\x20" + b.Root +
		"\x06\x02\x04\x02ab\x04\x00" + "\x06\x01\x05\x0c\x06\x05\x03\x02\x04\x01t\x03\x00\x03\x00\x00"
	if s, why := journal.Text(b); s != want || why != api.OK {
		t.Errorf("Text = %x, error %d", s, why)
	}
}
