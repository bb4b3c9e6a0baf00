package journal_test

import (
	"encoding/binary"
	"math/rand"
	"slices"
	"strings"
	"testing"

	"codicil/api"
	"codicil/journal"
)

// scanned fails, unless just these blocks stand in s.
func scanned(t *testing.T, s string, want []api.Block) {
	t.Helper()
	got, n := journal.Scan(s)
	size := len(strings.Join(framesOf(want), ""))
	if !slices.EqualFunc(got, want, same) || n != size {
		t.Fatalf("Scan(%s): %d blocks of %d bytes, not %d of %d", show(s), len(got), n, len(want), size)
	}
}

// A frame, byte by byte.
func TestFrameSample(t *testing.T) {
	b := block(1, first, []string{xs(300)}, table("t"))
	s := blockBytes(b)
	if len(s) != 0x189 {
		t.Fatalf("a text of %d bytes", len(s))
	}
	want := "\x89\x01\x00\x00" + sum("\x89\x01\x00\x00" + s)[:8] + s
	if f, why := journal.Frame(b); f != want || why != api.OK {
		t.Errorf("Frame = %x, error %d", f, why)
	}
	scanned(t, want, []api.Block{b})
}

func TestScanWhole(t *testing.T) {
	l := chain(t, 300) // more than a ledger may have: that is not asked here
	var all string
	for i, b := range l {
		f, why := journal.Frame(b)
		if why != api.OK {
			t.Fatalf("Frame of block %d: error %d", i+1, why)
		}
		all += f
	}
	scanned(t, all, l)
	scanned(t, "", nil)
}

// Whatever stands behind the frames is not theirs.
func TestScanTail(t *testing.T) {
	l := chain(t, 3)
	all := strings.Join(framesOf(l), "")
	for _, tail := range []string{
		"", "\x00", "junk", xs(1000), strings.Repeat("\x00", 11), strings.Repeat("\x00", 12), strings.Repeat("\x00", 1000), strings.Repeat("\xff", 12), strings.Repeat("\xff", 1000),
		framed(""), framed("\x00"), framed("junk"), framed(xs(api.MaxBytes)), framed(xs(api.MaxBytes + 1)), framed(all), framed(framed(blockBytes(l[0]))),
	} {
		scanned(t, all+tail, l)
		scanned(t, tail, nil)
		if tail != "" {
			scanned(t, tail+all, nil)
		}
	}
}

func TestScanCut(t *testing.T) {
	l := chain(t, 5)
	frames := framesOf(l)
	all := strings.Join(frames, "")
	for i := range len(all) + 1 {
		whole, size := 0, 0
		for whole < len(l) && size+len(frames[whole]) <= i {
			size += len(frames[whole])
			whole++
		}
		scanned(t, all[:i], l[:whole])
	}
}

// Of a byte that is changed, is left out or is there twice the frame in which it is, and all behind it, are not there.
func TestScanChanged(t *testing.T) {
	l := chain(t, 4)
	frames := framesOf(l)
	for i, f := range frames {
		ahead, behind := strings.Join(frames[:i], ""), strings.Join(frames[i+1:], "")
		for j := range len(f) {
			for bit := range 8 {
				scanned(t, ahead+f[:j]+string([]byte{f[j] ^ 1<<bit})+f[j+1:]+behind, l[:i])
			}
			// A byte that is like its neighbour leaves the same frame behind, so that only what follows is seen to be moved.
			if without := f[:j] + f[j+1:] + behind; !strings.HasPrefix(without, f) {
				scanned(t, ahead+without, l[:i])
			}
			if with := f[:j] + f[j:j+1] + f[j:] + behind; !strings.HasPrefix(with, f) {
				scanned(t, ahead+with, l[:i])
			}
		}
	}
}

// ordered is how many of places stand where they belong, from the first one on.
func ordered(places []int) int {
	for i, p := range places {
		if p != i {
			return i
		}
	}
	return len(places)
}

// Frames in any order, left out, or there twice: all rows of up to five of four.
func TestScanOrder(t *testing.T) {
	l := chain(t, 4)
	frames := framesOf(l)
	var try func(places []int, s string)
	try = func(places []int, s string) {
		scanned(t, s, l[:ordered(places)])
		if len(places) == 5 {
			return
		}
		for i, f := range frames {
			try(append(places[:len(places):len(places)], i), s+f)
		}
	}
	try(nil, "")
}

// Frames that are sealed well but have what is no block's text, or no block that comes next.
func TestScanSealed(t *testing.T) {
	l := chain(t, 3)
	ahead := strings.Join(framesOf(l[:2]), "")
	last := l[2]
	with := func(change func(b *api.Block)) string {
		b := last
		change(&b)
		return blockBytes(b)
	}
	for _, s := range []string{
		with(func(b *api.Block) { b.Seq = 1 }),
		with(func(b *api.Block) { b.Seq = 2 }),
		with(func(b *api.Block) { b.Seq = 4 }),
		with(func(b *api.Block) { b.Seq = 0 }),
		with(func(b *api.Block) { b.Seq = 1 << 62 }),
		with(func(b *api.Block) { b.Prev = first }),
		with(func(b *api.Block) { b.Prev = l[1].Prev }),
		with(func(b *api.Block) { b.Prev = l[1].Root }),
		with(func(b *api.Block) { b.Prev = sum(blockBytes(l[1])) }),
		with(func(b *api.Block) { b.Prev = last.Prev[:31] }),
		with(func(b *api.Block) { b.Root = first }),
		with(func(b *api.Block) { b.Statements = []string{"\xff"} }),
		with(func(b *api.Block) { b.Revs = b.Revs[:1] }),
		blockBytes(last) + "\x00",
		blockBytes(last)[1:],
		"",
	} {
		scanned(t, ahead+framed(s), l[:2])
		scanned(t, ahead+framed(s)+framed(blockBytes(last)), l[:2])
	}
	scanned(t, ahead+framed(blockBytes(last)), l)
	for _, f := range blockFaults() {
		b := spoiled(f)
		if b.Seq == 2 {
			b.Seq = 1
		}
		if b.Prev == sum("prev") {
			b.Prev = first
		}
		if !f.mute {
			scanned(t, framed(blockBytes(b)), nil)
		}
	}
}

// The first block of all has the number 1 and the digest ahead of all.
func TestScanFirst(t *testing.T) {
	for _, b := range []api.Block{block(2, first, nil, table("t")), block(1, sum(""), nil, table("t")), block(1, xs(32), nil, table("t")), block(1, first[:31]+"\x01", nil, table("t"))} {
		if why := journal.Check(b); why != api.OK {
			t.Fatalf("Check(%v) = %d", b, why)
		}
		scanned(t, framed(blockBytes(b)), nil)
	}
	b := block(1, first, nil, table("t"))
	scanned(t, framed(blockBytes(b)), []api.Block{b})
}

// A block that is put in the place of another one fits there, but what stood behind does not fit behind it.
func TestScanReplaced(t *testing.T) {
	l := chain(t, 4)
	for _, change := range []func(b *api.Block){
		func(b *api.Block) { b.Statements = append(times(1, "other"), b.Statements...) },
		func(b *api.Block) { b.Revs = append(times(1, table("other")), b.Revs...) },
		func(b *api.Block) { b.Revs = append(b.Revs[:len(b.Revs):len(b.Revs)], b.Revs[0]) },
	} {
		for i := range l {
			other := slices.Clone(l)
			change(&other[i])
			other[i].Root = rootOfRevs(other[i].Revs)
			scanned(t, strings.Join(framesOf(other), ""), other[:i+1])
		}
	}
}

// Frames whose first bytes are made in other ways than the chapter's.
func TestScanOtherFrames(t *testing.T) {
	b := block(1, first, nil, table("t"))
	s := blockBytes(b)
	size := string(binary.LittleEndian.AppendUint32(nil, uint32(len(s))))
	turned := string(binary.BigEndian.AppendUint32(nil, uint32(len(s))))
	for _, f := range []string{
		size + sum(s)[:8] + s,
		size + sum(size + s)[24:] + s,
		size + sum(size+s) + s,
		size + sum(size + s)[:7] + s,
		size + strings.Repeat("\x00", 8) + s,
		turned + sum(turned + s)[:8] + s,
		"\xff\xff\xff\xff" + sum("\xff\xff\xff\xff" + s)[:8] + s,
		"\xff\xff\xff\x7f" + sum("\xff\xff\xff\x7f" + s)[:8] + s,
		sum(size + s)[:8] + size + s,
		s,
	} {
		scanned(t, f, nil)
	}
	scanned(t, size+sum(size + s)[:8]+s, []api.Block{b})
}

func TestScanLongest(t *testing.T) {
	b := sizedBlock(api.MaxBytes)
	scanned(t, framed(blockBytes(b)), []api.Block{b})
	scanned(t, framed(blockBytes(sizedBlock(api.MaxBytes+1))), nil)
}

// What is read of anything at all is in a row.
func TestScanChained(t *testing.T) {
	r := rand.New(rand.NewSource(66))
	l := chain(t, 6)
	pieces := append(framesOf(l), framesOf([]api.Block{block(2, sum(headBytes(headOf(l[0]))), nil, table("u")), block(3, sum(headBytes(headOf(l[1]))), nil, table("u"))})...)
	for range 3000 {
		var s string
		for i := range r.Intn(8) {
			switch r.Intn(8) {
			case 0:
				s += pieces[r.Intn(len(pieces))]
			case 1:
				f := pieces[r.Intn(len(pieces))]
				s += f[:r.Intn(len(f))]
			default:
				s += pieces[i%6]
			}
		}
		got, n := journal.Scan(s)
		prev := first
		for i, b := range got {
			if b.Seq != uint64(i+1) || b.Prev != prev {
				t.Fatalf("Scan(%s): block %d is %v", show(s), i, b)
			}
			prev = sum(headBytes(headOf(b)))
		}
		if s[:n] != strings.Join(framesOf(got), "") {
			t.Fatalf("Scan(%s): %d bytes", show(s), n)
		}
	}
}
