package disk_test

import (
	"math"
	"strings"
	"testing"
	"unsafe"

	"codicil/api"
)

func write(s string) api.DiskStep { return api.DiskStep{Kind: api.DiskWrite, Data: s} }

func sync() api.DiskStep { return api.DiskStep{Kind: api.DiskSync} }

func cut(size int) api.DiskStep { return api.DiskStep{Kind: api.DiskCut, Size: size} }

func xs(n int) string { return strings.Repeat("x", n) }

// fuses, sizes: those that the small disks and steps have.
var (
	fuses = []int{math.MinInt, -2, -1, 0, 1, 2, math.MaxInt}
	sizes = []int{math.MinInt, -1, 0, 1, 2, 3, 4, math.MaxInt}
)

// smallDisks are all of few bytes, right and wrong.
func smallDisks() []api.Disk {
	var out []api.Disk
	for _, most := range sizes {
		for _, data := range []string{"", "a", "ab", "abc"} {
			for _, synced := range sizes {
				for _, fuse := range fuses {
					out = append(out,
						api.Disk{Data: data, Synced: synced, Cap: most, Fuse: fuse},
						api.Disk{Data: data, Synced: synced, Cap: most, Fuse: fuse, Down: true})
				}
			}
		}
	}
	return out
}

// smallSteps are all of few bytes, of each kind and of none; a field that a kind does not look at may have anything.
func smallSteps() []api.DiskStep {
	var out []api.DiskStep
	for _, kind := range []api.DiskKind{api.DiskNone, api.DiskWrite, api.DiskSync, api.DiskCut, api.DiskCount, api.DiskCount + 1, 255} {
		for _, data := range []string{"", "x", "xy", "xyzw"} {
			for _, size := range sizes {
				out = append(out, api.DiskStep{Kind: kind, Data: data, Size: size})
			}
		}
	}
	return out
}

// right is the chapter's word.
func right(d api.Disk) bool {
	return 0 <= d.Cap && d.Cap <= 262144 && len(d.Data) <= d.Cap && 0 <= d.Synced && d.Synced <= len(d.Data)
}

// behind is the chapter's change, step by step.
func behind(d api.Disk, s api.DiskStep) (api.Disk, api.Errno) {
	if !right(d) {
		return api.Disk{}, api.ErrState
	}
	if s.Kind != api.DiskWrite && s.Kind != api.DiskSync && s.Kind != api.DiskCut {
		return d, api.ErrType
	}
	if d.Down {
		return d, api.ErrDown
	}
	if s.Kind == api.DiskWrite && len(d.Data)+len(s.Data) > d.Cap {
		return d, api.ErrFull
	}
	if s.Kind == api.DiskCut && (s.Size < 0 || s.Size > len(d.Data)) {
		return d, api.ErrRange
	}
	if s.Kind == api.DiskWrite {
		d.Data = d.Data + s.Data
	}
	if d.Fuse == 0 {
		d.Down = true
		return d, api.ErrDown
	}
	if s.Kind == api.DiskSync {
		d.Synced = len(d.Data)
	}
	if s.Kind == api.DiskCut {
		d.Data, d.Synced = d.Data[:s.Size], s.Size
	}
	if d.Fuse > 0 {
		d.Fuse = d.Fuse - 1
	}
	return d, api.OK
}

// apart fails, if a text shares memory with one of the others.
func apart(t *testing.T, s string, others ...string) {
	t.Helper()
	for _, o := range others {
		if len(s) == 0 || len(o) == 0 {
			continue
		}
		a, b := uintptr(unsafe.Pointer(unsafe.StringData(s))), uintptr(unsafe.Pointer(unsafe.StringData(o)))
		if a < b+uintptr(len(o)) && b < a+uintptr(len(s)) {
			t.Fatalf("%q shares memory with %q", s, o)
		}
	}
}
