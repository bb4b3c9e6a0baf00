package store_test

import (
	"codicil/api"
	"codicil/journal"
	"codicil/ledger"
	"codicil/table"
)

// What follows are the chapter's words to the letter, by other means than the package's.

// stands are the blocks that stand in bytes, what they make, and how many bytes their frames have.
func stands(bytes string) ([]api.Block, api.State, int) {
	var out []api.Block
	var s api.State
	size := 0
	scanned, _ := journal.Scan(bytes)
	for _, b := range scanned {
		next, why := table.Apply(s, b)
		if why != api.OK || len(out) == 256 {
			break
		}
		out, s, size = append(out, b), next, size+len(frame(b))
	}
	return out, s, size
}

func rightDisk(d api.Disk) bool {
	return d.Cap >= 0 && d.Cap <= 262144 && len(d.Data) <= d.Cap && d.Synced >= 0 && d.Synced <= len(d.Data)
}

// isRight tells whether a store is.
func isRight(s api.Store) bool {
	if !rightDisk(s.Disk) || ledger.Check(s.Ledger) != api.OK {
		return false
	}
	return s.Broken || !s.Disk.Down && s.Disk.Synced == len(s.Disk.Data) && s.Disk.Data == framed(s.Ledger.Blocks)
}

// burnt is a disk behind one change that it may still do, and whether it did it.
func burnt(d api.Disk) (api.Disk, bool) {
	if d.Fuse == 0 {
		d.Down = true
		return d, false
	}
	if d.Fuse > 0 {
		d.Fuse--
	}
	return d, true
}

// saidOpen is what Open comes to.
func saidOpen(d api.Disk) told {
	d = twin(d)
	switch {
	case !rightDisk(d):
		return told{Why: api.ErrState}
	case d.Down:
		return told{Why: api.ErrDown}
	}
	blocks, s, size := stands(d.Data)
	if size < len(d.Data) || d.Synced < len(d.Data) {
		behind, done := burnt(d)
		if !done {
			return told{Store: api.Store{Disk: behind, Ledger: api.Ledger{Prev: nought}, Broken: true}, Why: api.ErrDown}
		}
		d = behind
		d.Data, d.Synced = d.Data[:size], size
	}
	prev := nought
	if n := len(blocks); n > 0 {
		prev = digest(blocks[n-1])
	}
	return told{Store: api.Store{Disk: d, Ledger: api.Ledger{Blocks: blocks, State: s, Prev: prev}}}
}

// said is what a call comes to.
func (c call) said(s api.Store) told {
	if !isRight(s) {
		return told{Why: api.ErrState}
	}
	s = twin(s)
	if c.what == "Crash" {
		return saidCrash(s.Disk, c.id)
	}
	if s.Broken {
		return told{Store: s, Why: api.ErrState}
	}
	out := told{Store: s}
	switch c.what {
	case "Begin":
		out.Store.Ledger, out.Id, out.Why = ledger.Begin(s.Ledger)
	case "Exec":
		out.Store.Ledger, out.Result, out.Why = ledger.Exec(s.Ledger, c.id, c.text, c.fuel)
	case "Abort":
		out.Store.Ledger, out.Why = ledger.Abort(s.Ledger, c.id)
	case "Commit":
		return saidCommit(s, c.id)
	}
	return out
}

func saidCommit(s api.Store, id int) told {
	l, seq, why := ledger.Commit(s.Ledger, id)
	if why != api.OK || seq == 0 {
		s.Ledger = l
		return told{Store: s, Why: why}
	}
	f := frame(l.Blocks[len(l.Blocks)-1])
	gone := without(s, id)
	if len(s.Disk.Data)+len(f) > s.Disk.Cap {
		return told{Store: gone, Why: api.ErrFull}
	}
	d, done := burnt(s.Disk)
	d.Data += f
	if done {
		d, done = burnt(d)
	}
	if !done {
		gone.Disk, gone.Broken = d, true
		return told{Store: gone, Why: api.ErrDown}
	}
	d.Synced = len(d.Data)
	return told{Store: api.Store{Disk: d, Ledger: l}, Seq: seq}
}

func saidCrash(d api.Disk, keep int) told {
	kept := d.Synced
	for kept < len(d.Data) && kept-d.Synced < keep {
		kept++
	}
	return saidOpen(api.Disk{Data: d.Data[:kept], Synced: kept, Cap: d.Cap, Fuse: -1})
}
