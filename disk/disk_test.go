package disk_test

import (
	"math"
	"math/rand"
	"runtime"
	"strings"
	"testing"

	"codicil/api"
	"codicil/disk"
)

func TestCheck(t *testing.T) {
	full := xs(api.MaxDisk)
	for _, c := range []struct {
		d   api.Disk
		why api.Errno
	}{
		{api.Disk{}, api.OK},
		{api.Disk{Fuse: -1}, api.OK},
		{api.Disk{Cap: -1}, api.ErrState},
		{api.Disk{Cap: math.MinInt}, api.ErrState},
		{api.Disk{Cap: 1}, api.OK},
		{api.Disk{Cap: 1 << 18}, api.OK},
		{api.Disk{Cap: 1<<18 + 1}, api.ErrState},
		{api.Disk{Cap: math.MaxInt}, api.ErrState},
		{api.Disk{Cap: 2, Data: "ab"}, api.OK},
		{api.Disk{Cap: 1, Data: "ab"}, api.ErrState},
		{api.Disk{Cap: 0, Data: "a"}, api.ErrState},
		{api.Disk{Cap: -1, Data: "a"}, api.ErrState},
		{api.Disk{Cap: api.MaxDisk, Data: full, Synced: api.MaxDisk}, api.OK},
		{api.Disk{Cap: api.MaxDisk, Data: full + "x"}, api.ErrState},
		{api.Disk{Cap: api.MaxDisk + 1, Data: full + "x"}, api.ErrState},
		{api.Disk{Cap: api.MaxDisk - 1, Data: full}, api.ErrState},
		{api.Disk{Cap: 9, Data: "ab", Synced: -1}, api.ErrState},
		{api.Disk{Cap: 9, Data: "ab", Synced: math.MinInt}, api.ErrState},
		{api.Disk{Cap: 9, Data: "ab", Synced: 0}, api.OK},
		{api.Disk{Cap: 9, Data: "ab", Synced: 1}, api.OK},
		{api.Disk{Cap: 9, Data: "ab", Synced: 2}, api.OK},
		{api.Disk{Cap: 9, Data: "ab", Synced: 3}, api.ErrState},
		{api.Disk{Cap: 9, Data: "ab", Synced: 9}, api.ErrState},
		{api.Disk{Cap: 9, Data: "ab", Synced: math.MaxInt}, api.ErrState},
		{api.Disk{Synced: 1}, api.ErrState},
		{api.Disk{Cap: 9, Data: "\xff\x00", Synced: 2, Down: true, Fuse: math.MinInt}, api.OK},
		{api.Disk{Cap: 9, Down: true, Fuse: math.MaxInt}, api.OK},
		{api.Disk{Cap: 9, Synced: 1, Down: true}, api.ErrState},
	} {
		if why := disk.Check(c.d); why != c.why {
			t.Errorf("Check(%.60v) = %d", c.d, why)
		}
	}
}

// The changes that the chapter names, one by one.
func TestDo(t *testing.T) {
	at := func(data string, synced, fuse int) api.Disk {
		return api.Disk{Data: data, Synced: synced, Cap: 5, Fuse: fuse}
	}
	down := func(d api.Disk) api.Disk {
		d.Down = true
		return d
	}
	for _, c := range []struct {
		d    api.Disk
		s    api.DiskStep
		want api.Disk
		why  api.Errno
	}{
		{at("ab", 1, -1), write("xy"), at("abxy", 1, -1), api.OK},
		{at("ab", 2, -7), write("xyz"), at("abxyz", 2, -7), api.OK},
		{at("", 0, -1), write("vwxyz"), at("vwxyz", 0, -1), api.OK},
		{at("abcde", 3, -1), write(""), at("abcde", 3, -1), api.OK},
		{at("ab", 1, -1), write("wxyz"), at("ab", 1, -1), api.ErrFull},
		{at("abcde", 5, -1), write("x"), at("abcde", 5, -1), api.ErrFull},
		{at("ab", 1, -1), sync(), at("ab", 2, -1), api.OK},
		{at("ab", 2, -1), sync(), at("ab", 2, -1), api.OK},
		{at("", 0, -1), sync(), at("", 0, -1), api.OK},
		{at("abc", 1, -1), cut(2), at("ab", 2, -1), api.OK},
		{at("abc", 3, -1), cut(1), at("a", 1, -1), api.OK},
		{at("abc", 1, -1), cut(0), at("", 0, -1), api.OK},
		{at("abc", 1, -1), cut(3), at("abc", 3, -1), api.OK},
		{at("abc", 1, -1), cut(-1), at("abc", 1, -1), api.ErrRange},
		{at("abc", 1, -1), cut(4), at("abc", 1, -1), api.ErrRange},

		{at("ab", 1, 1), write("xy"), at("abxy", 1, 0), api.OK},
		{at("ab", 1, 2), sync(), at("ab", 2, 1), api.OK},
		{at("ab", 1, 9), cut(1), at("a", 1, 8), api.OK},
		{at("ab", 1, 1), write("wxyz"), at("ab", 1, 1), api.ErrFull},
		{at("ab", 1, 1), cut(3), at("ab", 1, 1), api.ErrRange},
		{at("ab", 1, 1), api.DiskStep{}, at("ab", 1, 1), api.ErrType},

		{at("ab", 1, 0), write("xy"), down(at("abxy", 1, 0)), api.ErrDown},
		{at("ab", 2, 0), write(""), down(at("ab", 2, 0)), api.ErrDown},
		{at("ab", 1, 0), sync(), down(at("ab", 1, 0)), api.ErrDown},
		{at("ab", 1, 0), cut(1), down(at("ab", 1, 0)), api.ErrDown},
		{at("ab", 1, 0), cut(2), down(at("ab", 1, 0)), api.ErrDown},
		{at("ab", 1, 0), write("wxyz"), at("ab", 1, 0), api.ErrFull},
		{at("ab", 1, 0), cut(-1), at("ab", 1, 0), api.ErrRange},
		{at("ab", 1, 0), cut(3), at("ab", 1, 0), api.ErrRange},
		{at("ab", 1, 0), api.DiskStep{Kind: api.DiskCount}, at("ab", 1, 0), api.ErrType},

		{down(at("ab", 1, 3)), write("xy"), down(at("ab", 1, 3)), api.ErrDown},
		{down(at("ab", 1, 0)), write("xy"), down(at("ab", 1, 0)), api.ErrDown},
		{down(at("ab", 1, 0)), write("wxyz"), down(at("ab", 1, 0)), api.ErrDown},
		{down(at("ab", 1, -1)), sync(), down(at("ab", 1, -1)), api.ErrDown},
		{down(at("ab", 1, 3)), cut(1), down(at("ab", 1, 3)), api.ErrDown},
		{down(at("ab", 1, 3)), cut(3), down(at("ab", 1, 3)), api.ErrDown},
		{down(at("ab", 1, 3)), api.DiskStep{Kind: 255}, down(at("ab", 1, 3)), api.ErrType},

		{at("ab", 3, -1), sync(), api.Disk{}, api.ErrState},
		{at("abcdef", 3, -1), cut(0), api.Disk{}, api.ErrState},
		{down(at("ab", -1, 0)), write("xy"), api.Disk{}, api.ErrState},
		{at("ab", 3, -1), api.DiskStep{}, api.Disk{}, api.ErrState},
	} {
		if d, why := disk.Do(c.d, c.s); d != c.want || why != c.why {
			t.Errorf("Do(%v, %v) = %v, error %d", c.d, c.s, d, why)
		}
	}
}

func TestDoAllSmall(t *testing.T) {
	steps := smallSteps()
	for _, d := range smallDisks() {
		for _, s := range steps {
			want, no := behind(d, s)
			if got, why := disk.Do(d, s); got != want || why != no {
				t.Fatalf("Do(%v, %v) = %v, error %d", d, s, got, why)
			}
		}
	}
}

func TestDoUpToTheLastByte(t *testing.T) {
	for _, most := range []int{0, 1, 2, 100, api.MaxDisk - 1, api.MaxDisk} {
		for _, had := range []int{0, most / 2, most} {
			d := api.Disk{Data: xs(had), Synced: had / 2, Cap: most, Fuse: -1}
			fit := strings.Repeat("y", most-had)
			if got, why := disk.Do(d, write(fit+"y")); got != d || why != api.ErrFull {
				t.Errorf("one byte too many on %d of %d: error %d", had, most, why)
			}
			want := d
			want.Data += fit
			got, why := disk.Do(d, write(fit))
			if got != want || why != api.OK {
				t.Errorf("the last byte on %d of %d: error %d", had, most, why)
			}
			if got, why := disk.Do(got, write("y")); got != want || why != api.ErrFull {
				t.Errorf("a byte behind the last one of %d: error %d", most, why)
			}
			if got, why := disk.Do(d, write(xs(4*api.MaxDisk))); got != d || why != api.ErrFull {
				t.Errorf("far too many on %d of %d: error %d", had, most, why)
			}
		}
	}
}

// A fuse lets just so many changes through; those that are refused do not burn it.
func TestFuseCounts(t *testing.T) {
	for fuse := range 6 {
		d := api.Disk{Cap: 100, Fuse: fuse}
		for i := range fuse {
			for _, s := range []api.DiskStep{cut(-1), write(xs(101)), {}} {
				if got, why := disk.Do(d, s); got != d || why == api.OK || why == api.ErrDown {
					t.Fatalf("Do(%v, %.40v) = %v, error %d", d, s, got, why)
				}
			}
			var why api.Errno
			if d, why = disk.Do(d, []api.DiskStep{write("ab"), sync(), cut(1)}[i%3]); why != api.OK || d.Down || d.Fuse != fuse-i-1 {
				t.Fatalf("change %d of %d: %v, error %d", i, fuse, d, why)
			}
		}
		if got, why := disk.Do(d, sync()); why != api.ErrDown || !got.Down || got.Fuse != 0 {
			t.Errorf("behind %d changes: %v, error %d", fuse, got, why)
		}
	}
}

func TestRead(t *testing.T) {
	for _, d := range smallDisks() {
		want, no := d.Data, api.OK
		if !right(d) {
			want, no = "", api.ErrState
		} else if d.Down {
			want, no = "", api.ErrDown
		}
		if s, why := disk.Read(d); s != want || why != no {
			t.Fatalf("Read(%v) = %q, error %d", d, s, why)
		}
	}
	full := api.Disk{Data: strings.Repeat("\x00\xff", api.MaxDisk/2), Cap: api.MaxDisk}
	if s, why := disk.Read(full); s != full.Data || why != api.OK {
		t.Errorf("Read of MaxDisk bytes: %d, error %d", len(s), why)
	}
}

func TestCrash(t *testing.T) {
	d := api.Disk{Data: "abcde", Synced: 2, Cap: 7, Fuse: 4, Down: true}
	for _, c := range []struct {
		keep int
		data string
	}{
		{math.MinInt, "ab"}, {-1, "ab"}, {0, "ab"}, {1, "abc"}, {2, "abcd"}, {3, "abcde"}, {4, "abcde"}, {7, "abcde"}, {math.MaxInt, "abcde"},
	} {
		want := api.Disk{Data: c.data, Synced: len(c.data), Cap: 7, Fuse: -1}
		if got, why := disk.Crash(d, c.keep); got != want || why != api.OK {
			t.Errorf("Crash(%v, %d) = %v, error %d", d, c.keep, got, why)
		}
	}
}

func TestCrashAllSmall(t *testing.T) {
	for _, d := range smallDisks() {
		for _, keep := range sizes {
			var want api.Disk
			no := api.ErrState
			if right(d) {
				data := d.Data[:d.Synced]
				for i := d.Synced; i < len(d.Data) && i-d.Synced < keep; i++ {
					data += d.Data[i : i+1]
				}
				want, no = api.Disk{Data: data, Synced: len(data), Cap: d.Cap, Fuse: -1}, api.OK
			}
			if got, why := disk.Crash(d, keep); got != want || why != no {
				t.Fatalf("Crash(%v, %d) = %v, error %d", d, keep, got, why)
			}
		}
	}
}

func TestExample(t *testing.T) {
	d := api.Disk{Cap: 10, Fuse: -1}
	for _, s := range []api.DiskStep{write("xy"), sync(), write("z")} {
		d, _ = disk.Do(d, s)
	}
	d, _ = disk.Crash(d, 0)
	if s, why := disk.Read(d); s != "xy" || why != api.OK {
		t.Errorf("Read: %q, error %d", s, why)
	}
}

// What is safe is kept by hand here, beside the disk: what was synced, and what was written behind it.
func TestSafe(t *testing.T) {
	r := rand.New(rand.NewSource(5))
	for range 3000 {
		d := api.Disk{Cap: r.Intn(30), Fuse: r.Intn(12) - 1}
		safe, loose := "", ""
		for range r.Intn(15) {
			s := []api.DiskStep{write(xs(r.Intn(4)) + string(rune('a'+r.Intn(26)))), sync(), cut(r.Intn(30) - 1)}[r.Intn(3)]
			if r.Intn(3) > 0 {
				s = write("wrote")
			}
			wasDown, burnt := d.Down, d.Fuse == 0
			var why api.Errno
			d, why = disk.Do(d, s)
			switch {
			case why == api.OK && s.Kind == api.DiskWrite, why == api.ErrDown && !wasDown && burnt && s.Kind == api.DiskWrite:
				loose += s.Data
			case why == api.OK && s.Kind == api.DiskSync:
				safe, loose = safe+loose, ""
			case why == api.OK && s.Kind == api.DiskCut:
				safe, loose = (safe + loose)[:s.Size], ""
			}
		}
		keep := r.Intn(20) - 2
		got, why := disk.Crash(d, keep)
		s, no := disk.Read(got)
		if s != safe+loose[:min(max(keep, 0), len(loose))] || why != api.OK || no != api.OK {
			t.Fatalf("Crash(%v, %d) has %q, not %q and of %q", d, keep, s, safe, loose)
		}
		if again, _ := disk.Crash(got, r.Intn(9)-4); again != got {
			t.Fatalf("a second crash of %v left %v", got, again)
		}
	}
}

// Whatever is done with a right disk, it stays right.
func TestStaysRight(t *testing.T) {
	for _, d := range smallDisks() {
		if !right(d) {
			continue
		}
		for _, s := range smallSteps() {
			if e, _ := disk.Do(d, s); disk.Check(e) != api.OK || e.Cap != d.Cap {
				t.Fatalf("Do(%v, %v) = %v", d, s, e)
			}
		}
	}
}

func TestNewMemory(t *testing.T) {
	for _, fuse := range []int{-1, 0, 1} {
		for _, down := range []bool{false, true} {
			for _, had := range []string{"", strings.Clone("had this")} {
				for _, s := range []api.DiskStep{write(strings.Clone("added")), write(""), write(xs(99)), sync(), cut(3), cut(len(had)), cut(-1), {}} {
					d := api.Disk{Data: had, Synced: len(had) / 2, Cap: 20, Fuse: fuse, Down: down}
					first, _ := disk.Do(d, s)
					second, _ := disk.Do(d, s)
					apart(t, first.Data, d.Data, s.Data, second.Data)
				}
			}
		}
	}
	d := api.Disk{Data: strings.Clone("had this"), Synced: 4, Cap: 20}
	for keep := -1; keep < 6; keep++ {
		first, _ := disk.Crash(d, keep)
		second, _ := disk.Crash(d, keep)
		apart(t, first.Data, d.Data, second.Data)
	}
	first, _ := disk.Read(d)
	second, _ := disk.Read(d)
	apart(t, first, d.Data, second)
}

func TestLeavesNoGoroutine(t *testing.T) {
	before := runtime.NumGoroutine()
	d := api.Disk{Cap: 20, Fuse: 3}
	for _, s := range smallSteps() {
		disk.Do(d, s)
	}
	disk.Check(d)
	disk.Read(d)
	disk.Crash(d, 1)
	if now := runtime.NumGoroutine(); now > before {
		t.Errorf("%d goroutines, %d ahead", now, before)
	}
}
