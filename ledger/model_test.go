package ledger_test

import (
	"codicil/api"
	"codicil/bin"
	"codicil/journal"
	"codicil/occ"
	"codicil/sha"
	"codicil/table"
)

// What follows are the chapter's words to the letter, by other means than the package's.

// digest is a block's.
func digest(b api.Block) string {
	var statements []api.Value
	for _, s := range b.Statements {
		statements = append(statements, word(s))
	}
	said, _ := bin.Write(all(statements...))
	head, _ := bin.Write(all(number(int64(b.Seq)), blob(b.Prev), blob(b.Root), number(int64(len(b.Revs))), blob(sha.Sum(said))))
	return sha.Sum(head)
}

// inRow tells whether blocks are, and what the first ones make, from none of them to all.
func inRow(blocks []api.Block) ([]api.State, bool) {
	states := []api.State{{}}
	if len(blocks) > 256 {
		return nil, false
	}
	for i, b := range blocks {
		prev := nought
		if i > 0 {
			prev = digest(blocks[i-1])
		}
		if journal.Check(b) != api.OK || b.Seq != uint64(i+1) || b.Prev != prev {
			return nil, false
		}
		s := states[i]
		for _, r := range b.Revs {
			next, why := table.Do(s, b.Seq, r)
			if why != api.OK {
				return nil, false
			}
			s = next
		}
		states = append(states, s)
	}
	return states, true
}

// isRight tells whether a ledger is.
func isRight(l api.Ledger) bool {
	states, is := inRow(l.Blocks)
	if !is {
		return false
	}
	n, prev := len(l.Blocks), nought
	if n > 0 {
		prev = digest(l.Blocks[n-1])
	}
	if !same(l.State, states[n]) || l.Prev != prev || len(l.Sessions) > 8 {
		return false
	}
	for i, x := range l.Sessions {
		if x.Id < 1 || x.Id > l.Last || i > 0 && x.Id <= l.Sessions[i-1].Id || occ.Check(x) != api.OK {
			return false
		}
		found := 0
		for _, s := range states {
			if same(s, x.View.Base) {
				found++
			}
		}
		if found == 0 {
			return false
		}
	}
	return true
}

// said is what a call comes to.
func (c call) said(l api.Ledger) told {
	if !isRight(l) {
		return told{Why: api.ErrState}
	}
	l = twin(l)
	if c.what == "Begin" {
		return saidBegin(l)
	}
	at := -1
	for i, x := range l.Sessions {
		if x.Id == c.id {
			at = i
		}
	}
	if at < 0 {
		return told{Ledger: l, Why: api.ErrUnknown}
	}
	x := l.Sessions[at]
	if c.what == "Exec" {
		y, r, why := occ.Exec(x, c.text, c.fuel)
		l.Sessions[at] = y
		return told{Ledger: l, Result: r, Why: why}
	}
	var others []api.Session
	for i, y := range l.Sessions {
		if i != at {
			others = append(others, y)
		}
	}
	l.Sessions = others
	if c.what == "Abort" {
		return told{Ledger: l}
	}
	return saidCommit(l, x)
}

func saidBegin(l api.Ledger) told {
	if len(l.Sessions) == 8 {
		return told{Ledger: l, Why: api.ErrFull}
	}
	id := l.Last + 1
	l.Last = id
	l.Sessions = append(l.Sessions, api.Session{Id: id, View: api.View{Base: l.State}})
	return told{Ledger: l, Id: id}
}

// saidCommit is the commit of a session that is no more.
func saidCommit(l api.Ledger, x api.Session) told {
	if !x.Dead && len(x.View.Revs) == 0 {
		return told{Ledger: l}
	}
	if len(l.Blocks) == 256 {
		return told{Ledger: l, Why: api.ErrFull}
	}
	var since []api.Block
	for _, b := range l.Blocks {
		if b.Seq > x.View.Base.Seq {
			since = append(since, b)
		}
	}
	b, s, why := occ.Commit(x, l.State, since, l.Prev)
	if why != api.OK {
		return told{Ledger: l, Why: why}
	}
	l.Blocks, l.State, l.Prev = append(l.Blocks, b), s, digest(b)
	return told{Ledger: l, Seq: b.Seq}
}
