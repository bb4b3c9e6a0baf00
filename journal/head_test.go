package journal_test

import (
	"math"
	"testing"

	"codicil/api"
	"codicil/journal"
)

func TestShort(t *testing.T) {
	b := block(7, xs(32), []string{"one", "two"}, rightRevs()...)
	want := api.Head{Seq: 7, Prev: xs(32), Root: b.Root, Revs: 4, Statements: sum("\x06\x02\x04\x03one\x04\x03two")}
	if h, why := journal.Short(b); h != want || why != api.OK {
		t.Errorf("Short(%v) = %v, error %d", b, h, why)
	}
	b.Statements = nil
	want.Statements = sum("\x06\x00")
	if h, why := journal.Short(b); h != want || why != api.OK {
		t.Errorf("Short(%v) = %v, error %d", b, h, why)
	}
}

func TestHeadTextSamples(t *testing.T) {
	top := "\xff\xff\xff\xff\xff\xff\xff\xff\xff\x01"
	for s, h := range map[string]api.Head{
		"\x06\x05\x03\x00\x05\x00\x05\x00\x03\x00\x05\x00":                           {},
		"\x06\x05\x03\x02\x05\x01p\x05\x02rr\x03\x06\x05\x03sss":                     {Seq: 1, Prev: "p", Root: "rr", Revs: 3, Statements: "sss"},
		"\x06\x05\x03\x01\x05\x01\xff\x05\x00\x03\x01\x05\x00":                       {Seq: math.MaxUint64, Prev: "\xff", Revs: math.MaxUint64},
		"\x06\x05\x03" + top + "\x05\x00\x05\x00\x03" + top + "\x05\x00":             {Seq: 1 << 63, Revs: 1 << 63},
		"\x06\x05\x03\x00\x05\x80\x08" + xs(1024) + "\x05\x00\x03\x00\x05\x00":       {Prev: xs(1024)},
		"\x06\x05\x03\x00\x05\x00\x05\x80\x08" + xs(1024) + "\x03\x00\x05\x00":       {Root: xs(1024)},
		"\x06\x05\x03\x00\x05\x00\x05\x00\x03\x00\x05\x80\x08" + xs(1024):            {Statements: xs(1024)},
		"\x06\x05\x03\x00\x05\x20" + first + "\x05\x20" + first + "\x03\x02\x05\x00": {Prev: first, Root: first, Revs: 1},
		"\x06\x05\x03\x80\x01\x05\x00\x05\x00\x03\x82\x01\x05\x00":                   {Seq: 64, Revs: 65},
		"\x06\x05\x03\x00\x05\x00\x05\x00\x03\x00\x05\x05\x00\xff\xfe\xc3\x80":       {Statements: "\x00\xff\xfe\xc3\x80"},
	} {
		if got := journal.HeadText(h); got != s {
			t.Errorf("HeadText(%v) = %x", h, got)
		}
		if got := journal.Digest(h); got != sum(s) {
			t.Errorf("Digest(%v) = %x", h, got)
		}
	}
}

// A head of which there is no text has the digest of nothing.
func TestHeadTextNone(t *testing.T) {
	for _, h := range []api.Head{
		{Prev: xs(1025)}, {Root: xs(1025)}, {Statements: xs(1025)},
		{Seq: 1, Prev: first, Root: first, Revs: 1, Statements: xs(1 << 20)},
		{Prev: xs(1025), Root: xs(1025), Statements: xs(1025)},
	} {
		if s := journal.HeadText(h); s != "" {
			t.Errorf("HeadText(%s): %d bytes", show(h), len(s))
		}
		if s := journal.Digest(h); s != sum("") {
			t.Errorf("Digest(%s) = %x", show(h), s)
		}
	}
}

func TestHeadTextsOfBlocks(t *testing.T) {
	for _, b := range rightBlocks() {
		h, _ := journal.Short(b)
		if s := journal.HeadText(h); s != headBytes(headOf(b)) || journal.Digest(h) != sum(s) {
			t.Errorf("HeadText(%s) = %x", show(h), s)
		}
	}
}

// Whatever is changed of a block changes its digest.
func TestDigestsUnlike(t *testing.T) {
	seen := map[string]int{}
	for i, b := range []api.Block{
		block(1, first, []string{"ab", "c"}, table("t")),
		block(2, first, []string{"ab", "c"}, table("t")),
		block(1, sum(""), []string{"ab", "c"}, table("t")),
		block(1, first, []string{"a", "bc"}, table("t")),
		block(1, first, []string{"abc"}, table("t")),
		block(1, first, nil, table("t")),
		block(1, first, []string{"ab", "c"}, table("u")),
		block(1, first, []string{"ab", "c"}, table("t"), table("t")),
	} {
		h, why := journal.Short(b)
		if other, is := seen[journal.Digest(h)]; is || why != api.OK {
			t.Errorf("blocks %d and %d have one digest, error %d", i, other, why)
		}
		seen[journal.Digest(h)] = i
	}
}
