package store

import (
	"slices"
	"sort"
	"sync/atomic"

	"codicil/api"
	"codicil/disk"
	"codicil/journal"
	"codicil/ledger"
	"codicil/own"
)

// standing is the ledger of the blocks that stand in a disk's bytes, and how many bytes their frames have.
func standing(bytes string) (api.Ledger, int) {
	blocks, size := journal.Scan(bytes)
	l, why := of(blocks)
	if why == api.OK {
		return l, size
	}
	// Blocks in a row are so without the last of them, too.
	many := sort.Search(min(len(blocks), api.MaxBlocks), func(i int) bool {
		_, why := of(blocks[:i+1])
		return why != api.OK
	})
	first := slices.Clip(blocks[:many])
	l, _ = of(first)
	return l, sizeOf(first)
}

// sizeOf is how many bytes the frames of blocks have.
func sizeOf(blocks []api.Block) int {
	size := 0
	for _, b := range blocks {
		frame, _ := journal.Frame(b)
		size += len(frame)
	}
	return size
}

// of is the ledger of blocks, if they are in a row.
func of(blocks []api.Block) (api.Ledger, api.Errno) {
	s, prev, why := ledger.Fold(blocks)
	return api.Ledger{Blocks: blocks, State: s, Prev: prev}, why
}

// mending is what is to be done with a disk of which just the first bytes are frames.
func mending(d api.Disk, size int) []api.DiskStep {
	switch {
	case size < len(d.Data):
		// What is left of a cut is synced.
		return []api.DiskStep{{Kind: api.DiskCut, Size: size}}
	case d.Synced < len(d.Data):
		return []api.DiskStep{{Kind: api.DiskSync}}
	}
	return nil
}

// work is a disk that is worked on, and how often it was changed.
type work struct {
	disk    api.Disk
	changes atomic.Int64
}

// save lays a block's frame on the disk, and has it safe there.
func (w *work) save(b api.Block) api.Errno {
	frame, _ := journal.Frame(b)
	return w.do(api.DiskStep{Kind: api.DiskWrite, Data: frame}, api.DiskStep{Kind: api.DiskSync})
}

// do changes the disk, one step behind the other, till one has an error.
func (w *work) do(steps ...api.DiskStep) (why api.Errno) {
	for _, step := range steps {
		w.disk, why = disk.Do(w.disk, step)
		if why != api.OK {
			return why
		}
		w.changes.Add(1)
	}
	return api.OK
}

// told is the disk in memory of its own.
func (w *work) told() api.Disk {
	// A disk that was changed is new memory; the one that was handed in is not.
	if w.changes.Load() > 0 {
		return w.disk
	}
	return own.Disk(w.disk)
}
