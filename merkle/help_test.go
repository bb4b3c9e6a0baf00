package merkle_test

import (
	"crypto/sha256"
	"strconv"
	"testing"
	"unsafe"

	"codicil/api"
	"codicil/merkle"
)

func sum(s string) string {
	d := sha256.Sum256([]byte(s))
	return string(d[:])
}

func leaf(s string) string { return sum("\x00" + s) }

func node(a, b string) string { return sum("\x01" + a + b) }

// texts are n that are unlike.
func texts(n int) []string {
	var l []string
	for i := range n {
		l = append(l, "text "+strconv.Itoa(i))
	}
	return l
}

// firstOf is how many of n texts the first part has: the greatest power of 2 below n.
func firstOf(n int) int {
	k := 1
	for 2*k < n {
		k *= 2
	}
	return k
}

// rootOf, pathOf and growthOf are the chapter's words, to the letter.
func rootOf(l []string) string {
	switch len(l) {
	case 0:
		return sum("")
	case 1:
		return leaf(l[0])
	}
	k := firstOf(len(l))
	return node(rootOf(l[:k]), rootOf(l[k:]))
}

func pathOf(i int, l []string) []string {
	if len(l) == 1 {
		return nil
	}
	k := firstOf(len(l))
	if i < k {
		return append(pathOf(i, l[:k]), rootOf(l[k:]))
	}
	return append(pathOf(i-k, l[k:]), rootOf(l[:k]))
}

func growthOf(m int, l []string) []string {
	if m == 0 || m == len(l) {
		return nil
	}
	return growthIn(m, l, true)
}

func growthIn(m int, l []string, b bool) []string {
	if m == len(l) && b {
		return nil
	}
	if m == len(l) {
		return []string{rootOf(l)}
	}
	k := firstOf(len(l))
	if m <= k {
		return append(growthIn(m, l[:k], b), rootOf(l[k:]))
	}
	return append(growthIn(m-k, l[k:], false), rootOf(l[:k]))
}

// pathRoot is what a leaf and a path come to at i of n, and whether there are as many digests as there must be.
func pathRoot(s string, i, n int, path []string) (string, bool) {
	if n == 1 {
		return leaf(s), len(path) == 0
	}
	if len(path) == 0 {
		return "", false
	}
	k, last := firstOf(n), len(path)-1
	if i < k {
		root, is := pathRoot(s, i, k, path[:last])
		return node(root, path[last]), is
	}
	root, is := pathRoot(s, i-k, n-k, path[:last])
	return node(path[last], root), is
}

// growthRoots are the two roots that a growth comes to, and whether there are as many digests as there must be.
func growthRoots(old string, m, n int, growth []string, b bool) (string, string, bool) {
	if m == n && b {
		return old, old, len(growth) == 0
	}
	if len(growth) == 0 {
		return "", "", false
	}
	last := len(growth) - 1
	if m == n {
		return growth[last], growth[last], last == 0
	}
	k := firstOf(n)
	if m <= k {
		was, now, is := growthRoots(old, m, k, growth[:last], b)
		return was, node(now, growth[last]), is
	}
	was, now, is := growthRoots(old, m-k, n-k, growth[:last], false)
	return node(growth[last], was), node(growth[last], now), is
}

// tree is one that must be made.
func tree(t *testing.T, l []string) *merkle.Tree {
	t.Helper()
	x, why := merkle.New(l)
	if x == nil || why != api.OK {
		t.Fatalf("New of %d texts: error %d", len(l), why)
	}
	return x
}

// changes are lists that differ from l a little: one text more, less, changed, of another length, in another order.
func changes(l []string) [][]string {
	other := sum("other")
	out := [][]string{append([]string{other}, l...), append(l[:len(l):len(l)], other), append(l[:len(l):len(l)], "")}
	with := func(i int, s string) {
		c := append([]string{}, l...)
		c[i] = s
		out = append(out, c)
	}
	for i, s := range l {
		out = append(out, append(l[:i:i], l[i+1:]...))
		with(i, other)
		with(i, "")
		with(i, s[1:])
		with(i, s[:len(s)-1])
		with(i, s+"\x00")
		with(i, string([]byte{s[0] ^ 1})+s[1:])
		with(i, s[:len(s)-1]+string([]byte{s[len(s)-1] ^ 128}))
		if i > 0 && s != l[i-1] {
			c := append([]string{}, l...)
			c[i-1], c[i] = c[i], c[i-1]
			out = append(out, c)
		}
	}
	return out
}

// lend is a text whose bytes the test changes later, as one that must not keep it would see.
func lend(s string) (string, func()) {
	b := []byte(s)
	return unsafe.String(&b[0], len(b)), func() {
		for i := range b {
			b[i] = '!'
		}
	}
}

// apart fails, if two of the texts lie in one place.
func apart(t *testing.T, l ...string) {
	t.Helper()
	for i, a := range l {
		for _, b := range l[i+1:] {
			if unsafe.StringData(a) == unsafe.StringData(b) {
				t.Fatalf("shared memory: %x", a)
			}
		}
	}
}
