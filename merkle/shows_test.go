package merkle_test

import (
	"math"
	"slices"
	"strings"
	"testing"

	"codicil/api"
	"codicil/merkle"
)

func TestShowsEachText(t *testing.T) {
	for n := 1; n <= 34; n++ {
		l := texts(n)
		root := rootOf(l)
		for i := range n {
			path, _ := tree(t, l).Path(i)
			if !merkle.Shows(root, l[i], i, n, path) {
				t.Fatalf("%d of %d is not shown", i, n)
			}
			for j := range n {
				if j != i && (merkle.Shows(root, l[j], i, n, path) || merkle.Shows(root, l[i], j, n, path)) {
					t.Fatalf("%d of %d is shown as %d", i, n, j)
				}
			}
			for _, s := range []string{"", l[i] + "\x00", l[i][1:], leaf(l[i]), "\x00" + l[i], root} {
				if merkle.Shows(root, s, i, n, path) {
					t.Fatalf("%q is shown at %d of %d", s, i, n)
				}
			}
			if merkle.Shows(l[i], l[i], i, n, path) || merkle.Shows("", l[i], i, n, path) || merkle.Shows(root+"\x00", l[i], i, n, path) || merkle.Shows(root[:31], l[i], i, n, path) {
				t.Fatalf("%d of %d is shown under another root", i, n)
			}
		}
	}
}

// Whatever the place and the size, a path shows just what the chapter's words make of it.
func TestShowsAtAllPlaces(t *testing.T) {
	for n := 1; n <= 10; n++ {
		l := texts(n)
		for i := range n {
			path := pathOf(i, l)
			for size := -1; size <= 18; size++ {
				for place := -1; place <= size; place++ {
					want := false
					if place >= 0 && place < size {
						root, is := pathRoot(l[i], place, size, path)
						want = is && root == rootOf(l)
					}
					if merkle.Shows(rootOf(l), l[i], place, size, path) != want {
						t.Fatalf("the path of %d of %d at %d of %d: not %v", i, n, place, size, want)
					}
				}
			}
		}
	}
}

// A root is made to fit each changed path, so that just the path's form is at stake.
func TestShowsChangedPaths(t *testing.T) {
	for _, n := range []int{1, 2, 3, 5, 8, 13} {
		l := texts(n)
		for i := range n {
			path := pathOf(i, l)
			for _, c := range changes(path) {
				if merkle.Shows(rootOf(l), l[i], i, n, c) {
					t.Fatalf("%d of %d is shown by %x", i, n, c)
				}
				root, is := pathRoot(l[i], i, n, c)
				if merkle.Shows(root, l[i], i, n, c) != (is && digests(c)) {
					t.Fatalf("%d of %d by %x: not %v", i, n, c, is && digests(c))
				}
			}
		}
	}
}

func digests(l []string) bool {
	return !slices.ContainsFunc(l, func(s string) bool { return len(s) != 32 })
}

func TestShowsOutside(t *testing.T) {
	l := texts(api.MaxLeaves + 1)
	if n := api.MaxLeaves; !merkle.Shows(rootOf(l[:n]), l[n-1], n-1, n, pathOf(n-1, l[:n])) {
		t.Error("the last of MaxLeaves texts is not shown")
	}
	for _, i := range []int{0, 1, api.MaxLeaves} {
		if merkle.Shows(rootOf(l), l[i], i, len(l), pathOf(i, l)) {
			t.Errorf("%d of more than MaxLeaves texts is shown", i)
		}
	}
	ends := []int{math.MinInt, -1, 0, 1, api.MaxLeaves, api.MaxLeaves + 1, math.MaxInt}
	for _, i := range ends {
		for _, n := range ends {
			if want := i == 0 && n == 1; merkle.Shows(leaf("a"), "a", i, n, nil) != want || merkle.Shows(leaf("a"), "a", i, n, []string{}) != want {
				t.Errorf("Shows at %d of %d: not %v", i, n, want)
			}
			merkle.Shows(leaf("a"), "a", i, n, make([]string, 10))
		}
	}
}

func TestGrewFromEachSize(t *testing.T) {
	for n := range 34 {
		l := texts(n)
		root := rootOf(l)
		for m := range n + 1 {
			growth, _ := tree(t, l).Growth(m)
			old := rootOf(l[:m])
			if !merkle.Grew(old, root, m, n, growth) {
				t.Fatalf("%d of %d is not shown", m, n)
			}
			if merkle.Grew(sum("other"), root, m, n, growth) || merkle.Grew("", root, m, n, growth) || merkle.Grew(old[:31], root, m, n, growth) {
				t.Fatalf("%d of %d is shown from another root", m, n)
			}
			if m > 0 && (merkle.Grew(old, sum("other"), m, n, growth) || merkle.Grew(old, "", m, n, growth) || merkle.Grew(old, root+"\x00", m, n, growth)) {
				t.Fatalf("%d of %d is shown for another root", m, n)
			}
			for other := range n + 1 {
				if other != m && merkle.Grew(rootOf(l[:other]), root, m, n, growth) {
					t.Fatalf("%d of %d is shown from the root of %d", m, n, other)
				}
			}
		}
	}
}

// grown is whether a growth shows something, by the chapter's words.
func grown(old, root string, m, n int, growth []string) bool {
	switch {
	case m < 0 || m > n || n > api.MaxLeaves || !digests(growth):
		return false
	case m == 0 || m == n:
		return len(growth) == 0 && (m != 0 || old == sum("")) && (m != n || old == root)
	}
	was, now, is := growthRoots(old, m, n, growth, true)
	return is && was == old && now == root
}

func TestGrewAtAllSizes(t *testing.T) {
	for n := range 9 {
		l := texts(n)
		for m := range n + 1 {
			old, root, growth := rootOf(l[:m]), rootOf(l), growthOf(m, l)
			for size := -1; size <= 17; size++ {
				for first := -1; first <= size+1; first++ {
					if want := grown(old, root, first, size, growth); merkle.Grew(old, root, first, size, growth) != want {
						t.Fatalf("the growth from %d of %d as from %d of %d: not %v", m, n, first, size, want)
					}
				}
			}
		}
	}
}

func TestGrewChangedGrowths(t *testing.T) {
	for _, n := range []int{1, 2, 3, 5, 8, 13} {
		l := texts(n)
		for m := range n + 1 {
			old, root, growth := rootOf(l[:m]), rootOf(l), growthOf(m, l)
			for _, c := range changes(growth) {
				if merkle.Grew(old, root, m, n, c) {
					t.Fatalf("%d of %d is shown by %x", m, n, c)
				}
				if m == 0 || m == n {
					continue
				}
				was, now, _ := growthRoots(old, m, n, c, true)
				if want := grown(was, now, m, n, c); merkle.Grew(was, now, m, n, c) != want {
					t.Fatalf("%d of %d by %x: not %v", m, n, c, want)
				}
			}
		}
	}
}

func TestGrewFromNoneAndAll(t *testing.T) {
	none, a, b := sum(""), leaf("a"), leaf("b")
	for _, c := range []struct {
		old, root string
		m, n      int
		growth    []string
		want      bool
	}{
		{none, none, 0, 0, nil, true},
		{none, none, 0, 0, []string{}, true},
		{none, a, 0, 0, nil, false},
		{a, a, 0, 0, nil, false},
		{none, a, 0, 1, nil, true},
		{none, "what it likes", 0, api.MaxLeaves, nil, true},
		{none, a, 0, api.MaxLeaves + 1, nil, false},
		{a, a, 0, 1, nil, false},
		{none, a, 0, 1, []string{a}, false},
		{none, none, 0, -1, nil, false},
		{a, a, 1, 1, nil, true},
		{a, b, 1, 1, nil, false},
		{a, a, 1, 1, []string{a}, false},
		{a, a, 7, 7, nil, true},
		{"any", "any", 7, 7, nil, true},
		{a, a, api.MaxLeaves, api.MaxLeaves, nil, true},
		{a, a, api.MaxLeaves + 1, api.MaxLeaves + 1, nil, false},
		{a, a, 2, 1, nil, false},
		{a, a, -1, -1, nil, false},
		{a, a, -1, 1, nil, false},
		{a, node(a, b), 1, 2, []string{b}, true},
		{"elder", node("elder", b), 1, 2, []string{b}, true}, // where nothing is said the elder root itself stands, whatever it is
		{a, node(a, b), 1, 2, nil, false},
		{a, node(a, "short"), 1, 2, []string{"short"}, false},
	} {
		if got := merkle.Grew(c.old, c.root, c.m, c.n, c.growth); got != c.want {
			t.Errorf("Grew(%.4x, %.4x, %d, %d, %.4x) = %v", c.old, c.root, c.m, c.n, c.growth, got)
		}
	}
}

func TestGrewOutside(t *testing.T) {
	l := texts(api.MaxLeaves + 1)
	for _, m := range []int{1, 700, 1023, 1024} {
		if merkle.Grew(rootOf(l[:m]), rootOf(l), m, len(l), growthOf(m, l)) {
			t.Errorf("more than MaxLeaves texts are shown to have grown out of %d", m)
		}
	}
	ends := []int{math.MinInt, -1, 0, 1, 2, api.MaxLeaves, api.MaxLeaves + 1, math.MaxInt}
	for _, m := range ends {
		for _, n := range ends {
			for many := range 12 {
				growth := slices.Repeat([]string{leaf("a")}, many)
				if want := grown(sum(""), "", m, n, growth); merkle.Grew(sum(""), "", m, n, growth) != want {
					t.Errorf("Grew from %d of %d by %d digests: not %v", m, n, many, want)
				}
			}
		}
	}
}

func TestClashFindsNone(t *testing.T) {
	none := func(l []string, s string, i int, path []string) {
		t.Helper()
		if a, b, is := merkle.Clash(l, s, i, path); a != "" || b != "" || is {
			t.Errorf("Clash of %d texts at %d: %q, %q, %v", len(l), i, a, b, is)
		}
	}
	none(nil, "", 0, nil)
	for _, n := range []int{1, 2, 3, 5, 8, api.MaxLeaves, api.MaxLeaves + 1} {
		l := texts(n)
		for _, i := range []int{0, n / 2, n - 1} {
			path := pathOf(i, l)
			none(l, l[i], i, path) // it is shown, and it is the text of l
			none(l, "other", i, path)
			none(l, l[i], i, append(path, sum("")))
			none(l, "other", i, nil)
			for _, j := range []int{-1, n, math.MinInt, math.MaxInt} {
				none(l, l[i], j, path)
			}
		}
	}
}

func TestProofsLeaveTheirArguments(t *testing.T) {
	l := texts(6)
	path, growth := pathOf(4, l), growthOf(3, l)
	before := strings.Join(slices.Concat(l, path, growth), "|")
	for range 2 {
		if !merkle.Shows(rootOf(l), l[4], 4, 6, path) || !merkle.Grew(rootOf(l[:3]), rootOf(l), 3, 6, growth) {
			t.Fatal("not shown")
		}
		merkle.Clash(l, "other", 4, path)
		merkle.Clash(l, l[4], 4, path)
	}
	if before != strings.Join(slices.Concat(l, path, growth), "|") {
		t.Error("an argument was changed")
	}
}
