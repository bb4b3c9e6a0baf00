package merkle_test

import (
	"encoding/hex"
	"math"
	"math/bits"
	"runtime"
	"slices"
	"sync"
	"testing"

	"codicil/api"
	"codicil/merkle"
)

func TestRootsOfOthers(t *testing.T) {
	// The roots of RFC 6962's known tests, from no text on.
	l := []string{"", "\x00", "\x10", "\x20\x21", "\x30\x31", "\x40\x41\x42\x43", "\x50\x51\x52\x53\x54\x55\x56\x57", "\x60\x61\x62\x63\x64\x65\x66\x67\x68\x69\x6a\x6b\x6c\x6d\x6e\x6f"}
	for n, want := range []string{
		"e3b0c44298fc1c149afbf4c8996fb92427ae41e4649b934ca495991b7852b855",
		"6e340b9cffb37a989ca544e6bb780a2c78901d3fb33738768511a30617afa01d",
		"fac54203e7cc696cf0dfcb42c92a1d9dbaf70ad9e621f4bd8d98662f00e3c125",
		"aeb6bcfe274b70a14fb067a5e5578264db0fa9b51af5e0ba159158f329e06e77",
		"d37ee418976dd95753c1c73862b9398fa2a2cf9b4ff0fdfe8b30cd95209614b7",
		"4e3bbb1f7b478dcfe71fb631631519a3bca12c9aefca1612bfce4c13a86264d4",
		"76e67dadbcdf1e10e1b74ddc608abd2f98dfb16fbce75277b5232a127f2087ef",
		"ddb89be403809e325750d3d263cd78929c2942b7942a34b77e122c9594a74c8c",
		"5dc9da79a70659a9ad559cb701ded9a2ab9d823aad2f4960cfe370eff4604328",
	} {
		if got := hex.EncodeToString([]byte(tree(t, l[:n]).Root())); got != want {
			t.Errorf("root of %d texts: %s", n, got)
		}
	}
}

// sizes are those of the trees that are looked at whole.
func sizes() []int {
	var l []int
	for n := range 40 {
		l = append(l, n)
	}
	return append(l, 63, 64, 65, 100)
}

func TestTreeAsItIsSaid(t *testing.T) {
	for _, n := range sizes() {
		l := texts(n)
		x := tree(t, l)
		if x.Size() != n || x.Root() != rootOf(l) {
			t.Fatalf("of %d texts: size %d, root %x", n, x.Size(), x.Root())
		}
		for i := range n {
			path, why := x.Path(i)
			if why != api.OK || !slices.Equal(path, pathOf(i, l)) || len(path) > bits.Len(uint(n)) {
				t.Fatalf("path of %d of %d: %x, error %d", i, n, path, why)
			}
		}
		for m := range n + 1 {
			growth, why := x.Growth(m)
			if why != api.OK || !slices.Equal(growth, growthOf(m, l)) {
				t.Fatalf("growth from %d of %d: %x, error %d", m, n, growth, why)
			}
		}
	}
}

func TestTreeOfMostLeaves(t *testing.T) {
	for _, n := range []int{api.MaxLeaves - 1, api.MaxLeaves} {
		l := texts(n)
		x := tree(t, l)
		if x.Size() != n || x.Root() != rootOf(l) {
			t.Fatalf("of %d texts: size %d", n, x.Size())
		}
		for _, i := range []int{0, 1, n / 3, n/2 - 1, n / 2, n - 2, n - 1} {
			path, why := x.Path(i)
			if why != api.OK || !slices.Equal(path, pathOf(i, l)) || len(path) > bits.Len(uint(n)) || !merkle.Shows(x.Root(), l[i], i, n, path) {
				t.Errorf("path of %d of %d: error %d", i, n, why)
			}
			growth, why := x.Growth(i + 1)
			if why != api.OK || !slices.Equal(growth, growthOf(i+1, l)) || !merkle.Grew(rootOf(l[:i+1]), x.Root(), i+1, n, growth) {
				t.Errorf("growth from %d of %d: error %d", i+1, n, why)
			}
		}
	}
	for _, n := range []int{api.MaxLeaves + 1, 1 << 20} {
		if x, why := merkle.New(make([]string, n)); x != nil || why != api.ErrMany {
			t.Errorf("New of %d texts: error %d", n, why)
		}
	}
}

func TestTreeExample(t *testing.T) {
	x := tree(t, []string{"a", "b", "c"})
	ab := node(leaf("a"), leaf("b"))
	if path, why := x.Path(2); x.Root() != node(ab, leaf("c")) || len(path) != 1 || path[0] != ab || why != api.OK {
		t.Errorf("root %x, path %x, error %d", x.Root(), path, why)
	}
}

func TestPlacesOutside(t *testing.T) {
	for _, n := range []int{0, 1, 2, 3, 8, api.MaxLeaves} {
		x := tree(t, texts(n))
		for _, i := range []int{-1, n, n + 1, math.MinInt, math.MaxInt} {
			if path, why := x.Path(i); len(path) != 0 || why != api.ErrRange {
				t.Errorf("path of %d of %d: %x, error %d", i, n, path, why)
			}
			if growth, why := x.Growth(i); i != n && (len(growth) != 0 || why != api.ErrRange) {
				t.Errorf("growth from %d of %d: %x, error %d", i, n, growth, why)
			}
		}
	}
}

func TestNoTree(t *testing.T) {
	var x *merkle.Tree
	if x.Size() != 0 || x.Root() != "" {
		t.Errorf("size %d, root %x", x.Size(), x.Root())
	}
	for _, i := range []int{-1, 0, 1} {
		if path, why := x.Path(i); len(path) != 0 || why != api.ErrNil {
			t.Errorf("path of %d: %x, error %d", i, path, why)
		}
		if growth, why := x.Growth(i); len(growth) != 0 || why != api.ErrNil {
			t.Errorf("growth from %d: %x, error %d", i, growth, why)
		}
	}
}

// A tree that no one filled has no texts, as one of an empty list.
func TestEmptyTrees(t *testing.T) {
	for _, x := range []*merkle.Tree{{}, tree(t, nil), tree(t, []string{})} {
		growth, why := x.Growth(0)
		if x.Size() != 0 || x.Root() != sum("") || len(growth) != 0 || why != api.OK {
			t.Errorf("size %d, root %x, error %d", x.Size(), x.Root(), why)
		}
		if _, why := x.Path(0); why != api.ErrRange {
			t.Errorf("path of 0: error %d", why)
		}
	}
}

// What is done with the list and its texts behind New, and with answers, is nothing to the tree.
func TestTreeStaysAsItWas(t *testing.T) {
	l := texts(5)
	root, path, growth := rootOf(l), pathOf(3, l), growthOf(3, l)
	lent, spoil := lend(l[2])
	l[2] = lent
	x := tree(t, l)
	if !slices.Equal(l, texts(5)) {
		t.Error("New changed the list")
	}
	spoil()
	l[0] = "other"
	for range 3 {
		p, _ := x.Path(3)
		g, _ := x.Growth(3)
		if x.Root() != root || !slices.Equal(p, path) || !slices.Equal(g, growth) {
			t.Fatal("the tree changed")
		}
		for i := range p {
			p[i] = ""
		}
		for i := range g {
			g[i] = ""
		}
	}
}

func TestTreeAnswersNewMemory(t *testing.T) {
	x := tree(t, texts(6))
	for range 2 {
		all := []string{x.Root(), x.Root()}
		for i := range 6 {
			for range 2 {
				p, _ := x.Path(i)
				g, _ := x.Growth(i)
				all = append(append(all, p...), g...)
			}
		}
		apart(t, all...)
	}
}

func TestTreeFromManyGoroutines(t *testing.T) {
	before := runtime.NumGoroutine()
	l := texts(77)
	root, path, growth := rootOf(l), pathOf(70, l), growthOf(70, l)
	for range 20 {
		x := tree(t, l)
		var all sync.WaitGroup
		for i := range 16 {
			all.Go(func() {
				var p, g []string
				r := root
				switch i % 3 {
				case 0:
					r = x.Root()
				case 1:
					p, _ = x.Path(70)
				case 2:
					g, _ = x.Growth(70)
				}
				if x.Size() != 77 || r != root || i%3 == 1 && !slices.Equal(p, path) || i%3 == 2 && !slices.Equal(g, growth) {
					t.Error("another answer")
				}
			})
		}
		all.Wait()
	}
	if now := runtime.NumGoroutine(); now > before {
		t.Errorf("%d goroutines, %d ahead", now, before)
	}
}
