package merkle_test

import (
	"math"
	"math/bits"
	"slices"
	"strings"
	"testing"

	"codicil/api"
	"codicil/merkle"
)

// topsOf are the roots of the full trees that some texts make, the greatest one first.
func topsOf(l []string) []string {
	var tops []string
	for len(l) > 0 {
		k := 1 << (bits.Len(uint(len(l))) - 1)
		tops = append(tops, rootOf(l[:k]))
		l = l[k:]
	}
	return tops
}

func TestAddOneByOne(t *testing.T) {
	l := texts(api.MaxLeaves)
	var p api.Peaks
	for n := range api.MaxLeaves + 1 {
		if p.Count != n || len(p.Tops) != bits.OnesCount(uint(n)) {
			t.Fatalf("behind %d texts: Count %d, %d tops", n, p.Count, len(p.Tops))
		}
		if n < 140 || n > 1020 || n%97 == 0 {
			top, why := merkle.Top(p)
			if top != rootOf(l[:n]) || why != api.OK || !slices.Equal(p.Tops, topsOf(l[:n])) {
				t.Fatalf("behind %d texts: top %x, error %d", n, top, why)
			}
		}
		if n == api.MaxLeaves {
			break
		}
		q, why := merkle.Add(p, l[n])
		if why != api.OK {
			t.Fatalf("Add behind %d texts: error %d", n, why)
		}
		p = q
	}
	if q, why := merkle.Add(p, "more"); q.Count != 0 || len(q.Tops) != 0 || why != api.ErrMany {
		t.Errorf("Add to full peaks: %v, error %d", q, why)
	}
}

// Anyone may make peaks: their tops are taken as they are.
func TestPeaksByHand(t *testing.T) {
	a, b, c := strings.Repeat("a", 32), strings.Repeat("b", 32), strings.Repeat("c", 32)
	s := leaf("s")
	for _, x := range []struct {
		p    api.Peaks
		top  string
		tops []string
	}{
		{api.Peaks{}, sum(""), []string{s}},
		{api.Peaks{Tops: []string{}}, sum(""), []string{s}},
		{api.Peaks{Count: 1, Tops: []string{a}}, a, []string{node(a, s)}},
		{api.Peaks{Count: 2, Tops: []string{a}}, a, []string{a, s}},
		{api.Peaks{Count: 3, Tops: []string{a, b}}, node(a, b), []string{node(a, node(b, s))}},
		{api.Peaks{Count: 6, Tops: []string{a, b}}, node(a, b), []string{a, b, s}},
		{api.Peaks{Count: 11, Tops: []string{a, b, c}}, node(a, node(b, c)), []string{a, node(b, node(c, s))}},
		{api.Peaks{Count: 512, Tops: []string{a}}, a, []string{a, s}},
	} {
		if top, why := merkle.Top(x.p); top != x.top || why != api.OK {
			t.Errorf("Top(%v) = %x, error %d", x.p, top, why)
		}
		if q, why := merkle.Add(x.p, "s"); q.Count != x.p.Count+1 || !slices.Equal(q.Tops, x.tops) || why != api.OK {
			t.Errorf("Add(%v) = %v, error %d", x.p, q, why)
		}
	}
}

func TestWrongPeaks(t *testing.T) {
	d := leaf("d")
	ds := func(n int) []string { return slices.Repeat([]string{d}, n) }
	for _, p := range []api.Peaks{
		{Count: -1}, {Count: -1, Tops: ds(1)}, {Count: -1, Tops: ds(64)}, {Count: math.MinInt, Tops: ds(1)},
		{Count: api.MaxLeaves + 1, Tops: ds(2)}, {Count: 2 * api.MaxLeaves, Tops: ds(1)}, {Count: math.MaxInt, Tops: ds(63)},
		{Tops: ds(1)}, {Count: 1}, {Count: 1, Tops: ds(2)}, {Count: 3, Tops: ds(1)}, {Count: 3, Tops: ds(3)}, {Count: 4, Tops: ds(2)},
		{Count: api.MaxLeaves}, {Count: api.MaxLeaves, Tops: ds(2)}, {Count: api.MaxLeaves, Tops: []string{""}},
		{Count: 1, Tops: []string{""}}, {Count: 1, Tops: []string{d[:31]}}, {Count: 1, Tops: []string{d + "\x00"}},
		{Count: 3, Tops: []string{d, d[:31]}}, {Count: 3, Tops: []string{d + d, d}}, {Count: 7, Tops: []string{d, "", d}},
	} {
		if top, why := merkle.Top(p); top != "" || why != api.ErrState {
			t.Errorf("Top(%v) = %x, error %d", p, top, why)
		}
		if q, why := merkle.Add(p, "s"); q.Count != 0 || len(q.Tops) != 0 || why != api.ErrState {
			t.Errorf("Add(%v) = %v, error %d", p, q, why)
		}
	}
	full := api.Peaks{Count: api.MaxLeaves, Tops: ds(1)}
	if q, why := merkle.Add(full, "s"); q.Count != 0 || len(q.Tops) != 0 || why != api.ErrMany {
		t.Errorf("Add(%v) = %v, error %d", full, q, why)
	}
	if top, why := merkle.Top(full); top != d || why != api.OK {
		t.Errorf("Top(%v) = %x, error %d", full, top, why)
	}
}

// Peaks have room behind their tops, which no call may use, and memory that no answer may share.
func TestPeaksLeaveTheirArguments(t *testing.T) {
	for n := range 16 {
		own := topsOf(texts(n))
		tops := append(make([]string, 0, 20), own...)
		p := api.Peaks{Count: n, Tops: tops}
		var all []string
		for range 2 {
			q, _ := merkle.Add(p, "s")
			r, _ := merkle.Add(p, "r")
			top, _ := merkle.Top(p)
			again, _ := merkle.Add(p, "s")
			if !slices.Equal(q.Tops, again.Tops) || slices.Equal(q.Tops, r.Tops) {
				t.Fatalf("behind %d texts: %x, then %x", n, q.Tops, again.Tops)
			}
			all = append(append(append(append(all, q.Tops...), r.Tops...), again.Tops...), top)
		}
		apart(t, append(all, tops...)...)
		if !slices.Equal(tops, own) {
			t.Fatalf("behind %d texts: the argument was changed", n)
		}
		for _, s := range tops[len(tops):cap(tops)] {
			if s != "" {
				t.Fatalf("behind %d texts: the room behind the argument was used", n)
			}
		}
	}
}
