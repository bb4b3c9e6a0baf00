package proof_test

import (
	"codicil/api"
	"codicil/bin"
	"codicil/journal"
	"codicil/ledger"
	"codicil/sha"
)

// What follows are the chapter's words, and merkle's, to the letter, by other means than the packages'.

func leaf(s string) string { return sha.Sum("\x00" + s) }

func node(a, b string) string { return sha.Sum("\x01" + a + b) }

// half is the greatest power of 2 below n.
func half(n int) int {
	k := 1
	for 2*k < n {
		k *= 2
	}
	return k
}

// root is that of some texts.
func root(l []string) string {
	switch n := len(l); n {
	case 0:
		return sha.Sum("")
	case 1:
		return leaf(l[0])
	default:
		return node(root(l[:half(n)]), root(l[half(n):]))
	}
}

// path is that of the text i.
func path(i int, l []string) []string {
	n := len(l)
	if n == 1 {
		return nil
	}
	if k := half(n); i < k {
		return append(path(i, l[:k]), root(l[k:]))
	} else {
		return append(path(i-k, l[k:]), root(l[:k]))
	}
}

// growth is G.
func growth(m int, l []string, b bool) []string {
	n := len(l)
	if m == n && b {
		return nil
	}
	if m == n {
		return []string{root(l)}
	}
	if k := half(n); m <= k {
		return append(growth(m, l[:k], b), root(l[k:]))
	} else {
		return append(growth(m-k, l[k:], false), root(l[:k]))
	}
}

// digests tells whether each is one.
func digests(l []string) bool {
	for _, s := range l {
		if len(s) != 32 {
			return false
		}
	}
	return true
}

// together is the root that a digest and a path make, and whether the path is as long as it must be.
func together(d string, i, n int, path []string) (string, bool) {
	if n == 1 {
		return d, len(path) == 0
	}
	last := len(path) - 1
	if last < 0 {
		return "", false
	}
	if k := half(n); i < k {
		x, is := together(d, i, k, path[:last])
		return node(x, path[last]), is
	} else {
		x, is := together(d, i-k, n-k, path[:last])
		return node(path[last], x), is
	}
}

// pathShows tells whether a path shows that s is at i of n under a root.
func pathShows(top, s string, i, n int, path []string) bool {
	if i < 0 || i >= n || n > 1024 || !digests(path) {
		return false
	}
	x, is := together(leaf(s), i, n, path)
	return is && x == top
}

// growthShows tells whether a growth shows that a root of n texts grew out of one of m.
func growthShows(old, top string, m, n int, growth []string) bool {
	if m < 0 || m > n || n > 1024 || !digests(growth) {
		return false
	}
	if m == 0 || m == n {
		return len(growth) == 0 && (m > 0 || old == sha.Sum("")) && (m < n || old == top)
	}
	rest, short := growth, false
	take := func() string {
		if len(rest) == 0 {
			short = true
			return ""
		}
		s := rest[0]
		rest = rest[1:]
		return s
	}
	var both func(m, n int, b bool) (string, string)
	both = func(m, n int, b bool) (string, string) {
		if m == n && b {
			return old, old
		}
		if m == n {
			s := take()
			return s, s
		}
		if k := half(n); m <= k {
			x, y := both(m, k, b)
			return x, node(y, take())
		} else {
			x, y := both(m-k, n-k, false)
			s := take()
			return node(s, x), node(s, y)
		}
	}
	x, y := both(m, n, true)
	return !short && len(rest) == 0 && x == old && y == top
}

// written is bin.Write, nothing, if that has an error.
func written(l ...api.Value) string {
	s, _ := bin.Write(all(l...))
	return s
}

// headOf is a block's.
func headOf(b api.Block) api.Head {
	var statements []api.Value
	for _, s := range b.Statements {
		statements = append(statements, word(s))
	}
	return api.Head{Seq: b.Seq, Prev: b.Prev, Root: b.Root, Revs: uint64(len(b.Revs)), Statements: sha.Sum(written(statements...))}
}

// headText is a head's.
func headText(h api.Head) string {
	return written(number(int64(h.Seq)), blob(h.Prev), blob(h.Root), number(int64(h.Revs)), blob(h.Statements))
}

// headTexts are those of a ledger's first n blocks.
func headTexts(l api.Ledger, n uint64) []string {
	var out []string
	for _, b := range l.Blocks[:n] {
		out = append(out, headText(headOf(b)))
	}
	return out
}

// revTexts are those of a block's revisions.
func revTexts(b api.Block) []string {
	var out []string
	for _, r := range b.Revs {
		out = append(out, written(number(int64(r.Kind)), word(r.Table), number(int64(r.Doc)), number(int64(r.Version)), r.Value))
	}
	return out
}

// saidTip is Tip of anything.
func saidTip(l api.Ledger, n uint64) (api.Tip, api.Errno) {
	if ledger.Check(l) != api.OK {
		return api.Tip{}, api.ErrState
	}
	if n > uint64(len(l.Blocks)) {
		return api.Tip{}, api.ErrRange
	}
	return api.Tip{Seq: n, Root: root(headTexts(l, n))}, api.OK
}

// saidProve is Prove of anything.
func saidProve(l api.Ledger, seq uint64, index int, n uint64) proved {
	if _, why := saidTip(l, n); why != api.OK {
		return proved{Why: why}
	}
	if seq == 0 || seq > n || index < 0 || index >= len(l.Blocks[seq-1].Revs) {
		return proved{Why: api.ErrRange}
	}
	b := l.Blocks[seq-1]
	return proved{Rev: b.Revs[index], Proof: api.Proof{
		Index:  index,
		Head:   headOf(b),
		Path:   path(index, revTexts(b)),
		Blocks: path(int(seq-1), headTexts(l, n)),
	}}
}

// saidShows is Shows of anything.
func saidShows(t api.Tip, r api.Rev, p api.Proof) bool {
	text, why := journal.RevText(r)
	if why != api.OK || p.Head.Revs > 64 || t.Seq > 256 || p.Head.Seq == 0 || p.Head.Seq > 1024 {
		return false
	}
	return pathShows(p.Head.Root, text, p.Index, int(p.Head.Revs), p.Path) && pathShows(t.Root, headText(p.Head), int(p.Head.Seq)-1, int(t.Seq), p.Blocks)
}

// saidGrow is Grow of anything.
func saidGrow(l api.Ledger, m, n uint64) ([]string, api.Errno) {
	if _, why := saidTip(l, n); why != api.OK || m > n {
		return nil, max(why, api.ErrRange)
	}
	if m == 0 {
		return nil, api.OK
	}
	return growth(int(m), headTexts(l, n), true), api.OK
}

// saidGrew is Grew of anything.
func saidGrew(old, t api.Tip, growth []string) bool {
	return old.Seq <= 256 && t.Seq <= 256 && growthShows(old.Root, t.Root, int(old.Seq), int(t.Seq), growth)
}
