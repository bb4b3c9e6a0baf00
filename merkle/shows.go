package merkle

import (
	"slices"

	"codicil/api"
	"codicil/sha"
)

// Shows tells whether a path shows that s is the text at i of n under a root.
func Shows(root, s string, i, n int, path []string) bool {
	if i < 0 || i >= n || n > api.MaxLeaves {
		return false
	}
	way := toText(i, n)
	if !right(path, len(way)) {
		return false
	}
	up := chain(s, way, path)
	return up[len(up)-1].digest == root
}

// Grew tells whether a growth shows that a root of n texts grew out of an old one of m.
func Grew(old, root string, m, n int, growth []string) bool {
	switch {
	case m < 0 || m > n || n > api.MaxLeaves:
		return false
	case m == 0 && old != sha.Sum("") || m == n && old != root:
		return false
	case m == 0 || m == n:
		return len(growth) == 0
	}
	way := toElder(m, n)
	if isElder(way) {
		return right(growth, len(way)) && together(old, root, old, way, growth)
	}
	return right(growth, len(way)+1) && together(old, root, growth[0], way, growth[1:])
}

// together tells whether both roots come out if the part that they share is put together with those beside the turns to it, given from below.
func together(old, root, shared string, way []bool, beside []string) bool {
	was, is := shared, shared
	for j, left := range fromBelow(way) {
		if !left {
			was = node(beside[j], was).digest
		}
		is = joined(is, beside[j], left).digest
	}
	return was == old && is == root
}

// Clash are two texts that are unlike and have one digest, found by a path that shows another text than that of l.
func Clash(l []string, s string, i int, path []string) (string, string, bool) {
	t, why := New(l)
	if why != api.OK || !Shows(t.Root(), s, i, len(l), path) || s == l[i] {
		return "", "", false
	}
	own, _ := t.Path(i)
	way := toText(i, len(l))
	return firstAlike(chain(s, way, path), chain(l[i], way, own))
}

// made is a digest and the text of which it was made.
type made struct {
	text, digest string
}

func leaf(s string) made {
	return digested("\x00" + s)
}

func node(a, b string) made {
	return digested("\x01" + a + b)
}

func digested(text string) made {
	return made{text: text, digest: sha.Sum(text)}
}

// joined is the node of a digest and the one beside it.
func joined(digest, beside string, left bool) made {
	if left {
		return node(digest, beside)
	}
	return node(beside, digest)
}

// chain is what a text and its path make, from the leaf up to the root.
func chain(s string, way []bool, path []string) []made {
	up := []made{leaf(s)}
	for j, left := range fromBelow(way) {
		up = append(up, joined(up[j].digest, path[j], left))
	}
	return up
}

// firstAlike are the texts of the first two digests that are alike.
func firstAlike(a, b []made) (string, string, bool) {
	for j := range a {
		if a[j].digest == b[j].digest {
			return a[j].text, b[j].text, true
		}
	}
	return "", "", false
}

// fromBelow are turns in the order in which digests are put together.
func fromBelow(way []bool) []bool {
	out := slices.Clone(way)
	slices.Reverse(out)
	return out
}

// right tells whether there are so many digests.
func right(l []string, many int) bool {
	short := func(s string) bool { return len(s) != width }
	return len(l) == many && !slices.ContainsFunc(l, short)
}
