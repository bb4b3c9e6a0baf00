package journal_test

import (
	"math"
	"slices"
	"strings"
	"testing"
	"unicode/utf8"

	"codicil/api"
	"codicil/journal"
)

// unread fails, unless Read refuses a text.
func unread(t *testing.T, s string) {
	t.Helper()
	if b, why := journal.Read(s); !zero(b) || why != api.ErrForm {
		t.Fatalf("Read(%.400x) = %v, error %d", s, b, why)
	}
}

func TestReadWrongBlocks(t *testing.T) {
	for _, f := range blockFaults() {
		if !f.mute {
			unread(t, blockBytes(spoiled(f)))
		}
	}
	for n := api.MaxBytes + 1; n < api.MaxBytes+4; n++ {
		unread(t, blockBytes(sizedBlock(n)))
	}
}

func TestReadNoBlocks(t *testing.T) {
	for _, s := range []string{"", "\x00", "\x06\x00", "\x06\x05", "\x06\x05\x00\x00\x00\x00\x00", "\x07\x00", "junk", xs(api.MaxBytes), xs(api.MaxBytes + 1), xs(1 << 20)} {
		unread(t, s)
	}
}

// Each part of a block's text as another kind, or with a number that is none of its own.
func TestReadOtherParts(t *testing.T) {
	b := block(1, xs(32), []string{"one"}, table("t"))
	rev := revBytes(table("t"))
	for i, others := range [][]api.Value{
		{{}, text("1"), blob("\x02"), list(whole(1)), whole(0), whole(-1), whole(1<<62 + 1), whole(math.MaxInt64), whole(math.MinInt64), {Kind: api.KindBool, B: true}},
		{{}, text(xs(32)), blob(xs(31)), blob(xs(33)), list(blob(xs(32))), whole(0)},
		{{}, text(xs(32)), blob(xs(32)), blob(b.Root[:31]), blob(b.Root + "x"), list(blob(b.Root)), whole(0)},
		{{}, text("one"), list(blob("one")), list(whole(1)), list(api.Value{}), list(list(text("one"))), doc("a", text("one")), doc()},
		{{}, text(rev), blob(rev), list(), list(text(rev)), list(api.Value{}), list(list(blob(rev))), list(blob(rev), blob(rev)), doc("a", blob(rev)), list(table("t").Value)},
	} {
		for _, v := range others {
			l := parts(b)
			l[i] = v
			unread(t, bytesOf(list(l...)))
		}
	}
	unread(t, bytesOf(list(parts(b)[:4]...)))
	unread(t, bytesOf(list(append(parts(b), api.Value{})...)))
	unread(t, bytesOf(list(append(parts(b), list())...)))
	unread(t, bytesOf(list(list(parts(b)...))))
	unread(t, bytesOf(list(slices.Concat(parts(b), parts(b))...)))
	unread(t, bytesOf(doc("a", parts(b)[0], "b", parts(b)[1], "c", parts(b)[2], "d", parts(b)[3], "e", parts(b)[4])))
}

// Blobs that stand for revisions but are none's text, under a Root that is right for them.
func TestReadOtherRevs(t *testing.T) {
	whose := func(kind int64, table, id, version, v api.Value, more ...api.Value) string {
		return bytesOf(list(append([]api.Value{whole(kind), table, id, version, v}, more...)...))
	}
	none, name := whole(0), text("t")
	for _, rev := range []string{
		"", "\x00", "\x06\x00", "junk",
		whose(0, name, none, none, api.Value{}),
		whose(5, name, none, none, api.Value{}),
		whose(-1, name, none, none, api.Value{}),
		whose(256+1, name, none, none, api.Value{}),
		whose(1<<32+1, name, none, none, api.Value{}),
		whose(-255, name, none, none, api.Value{}),
		whose(1, blob("t"), none, none, api.Value{}),
		whose(1, text(""), none, none, api.Value{}),
		whose(1, api.Value{}, none, none, api.Value{}),
		whose(1, name, whole(1), none, api.Value{}),
		whose(1, name, none, whole(1), api.Value{}),
		whose(1, name, text(""), none, api.Value{}),
		whose(1, name, none, api.Value{}, api.Value{}),
		whose(1, name, none, none, text("")),
		whose(1, name, none, none, api.Value{}, api.Value{}),
		whose(4, name, whole(-1), none, api.Value{}),
		whose(4, name, none, whole(-1), api.Value{}),
		whose(4, name, whole(1<<62+1), none, api.Value{}),
		whose(4, name, none, whole(math.MinInt64), api.Value{}),
		whose(3, name, none, none, list()),
		whose(2, name, none, none, blob("f")),
		revBytes(table("t"))[:11],
		revBytes(table("t")) + "\x00",
		bytesOf(list(whole(1), name, none, none)),
		bytesOf(list(text("1"), name, none, none, api.Value{})),
		revBytes(put("t", 1, 0, doc("b", none, "a", none))),
		revBytes(put("t", 1, 0, within(api.MaxDepth, api.Value{}))),
		revBytes(table(xs(api.MaxText - 11))),
	} {
		b := block(1, first, nil, table("t"))
		l := parts(b)
		l[2], l[4] = blob(rootOf(rev)), list(blob(rev))
		unread(t, bytesOf(list(l...)))
		l[2], l[4] = blob(rootOf(revBytes(table("t")), rev)), list(blob(revBytes(table("t"))), blob(rev))
		unread(t, bytesOf(list(l...)))
	}
}

func TestReadCut(t *testing.T) {
	for _, b := range []api.Block{block(1, first, []string{"one"}, rightRevs()...), block(2, sum(""), nil, table("t"))} {
		s := blockBytes(b)
		for i := range s {
			unread(t, s[:i])
			unread(t, s[:i]+s[i+1:])
			unread(t, s[i:]+s[:i]+"\x00")
		}
		unread(t, s+"\x00")
		unread(t, "\x00"+s)
		unread(t, s+s)
	}
}

// A text that is changed at a byte is another block's just where a number, a digest ahead or a statement may be another one.
func TestReadChanged(t *testing.T) {
	b := block(1, xs(32), []string{"ab"}, put("t", 1, 0, doc("a", text("b"))))
	s := blockBytes(b)
	statement := strings.Index(s, "\x04\x02ab") + 2
	for i := range len(s) {
		for c := range 256 {
			changed := s[:i] + string([]byte{byte(c)}) + s[i+1:]
			var is bool
			switch {
			case i == 3: // Seq: 1 is folded to 2
				is = c%2 == 0 && c > 0 && c < 128
			case i >= 6 && i < 38: // Prev
				is = true
			case i >= statement && i < statement+2:
				is = utf8.ValidString(changed[statement : statement+2])
			default:
				is = changed == s
			}
			if !is {
				unread(t, changed)
			} else if got, why := journal.Read(changed); why != api.OK || blockBytes(got) != changed {
				t.Fatalf("Read(%x) = %v, error %d", changed, got, why)
			}
		}
	}
}
