package occ_test

import (
	"unicode/utf8"

	"codicil/api"
	"codicil/journal"
	"codicil/parse"
	"codicil/table"
	"codicil/value"
	"codicil/view"
)

// What follows are the chapter's words to the letter, by other means than the package's.

// isRight tells whether a session is.
func isRight(x api.Session) bool {
	for _, s := range x.Statements {
		if len(s) > 1024 || !utf8.ValidString(s) {
			return false
		}
	}
	return view.Check(x.View) == api.OK && len(x.Statements) <= 64 && len(x.Reads) <= 64
}

// saidExec is Exec of anything.
func saidExec(x api.Session, text string, fuel int) told {
	if !isRight(x) {
		return told{Why: api.ErrState}
	}
	if x.Dead {
		return told{Session: x, Why: api.ErrState}
	}
	if fuel < 0 || fuel > 65536 {
		return told{Session: x, Why: api.ErrRange}
	}
	if _, why, _ := parse.Parse(text); why != api.OK {
		return told{Session: x, Why: why}
	}
	dead := x
	dead.Dead = true
	switch {
	case len(text) > 1024:
		return told{Session: dead, Why: api.ErrLong}
	case !utf8.ValidString(text):
		return told{Session: dead, Why: api.ErrUtf}
	case len(x.Statements) == 64, len(x.Reads) == 64:
		return told{Session: dead, Why: api.ErrMany}
	}
	v, r, reads, why := view.Exec(x.View, text, fuel)
	out := api.Session{Id: x.Id, View: v}
	out.Statements = append(append([]string{}, x.Statements...), text)
	out.Reads = append(append([]api.Read{}, x.Reads...), reads...)
	switch why {
	case api.ErrFuel, api.ErrMany, api.ErrFull:
		out.Dead = true
	}
	return told{Session: out, Result: r, Why: why}
}

// doFit tells whether blocks fit a session and a state.
func doFit(x api.Session, s api.State, blocks []api.Block) bool {
	n := len(blocks)
	if n == 0 {
		return x.View.Base.Seq == s.Seq
	}
	for i, b := range blocks {
		if journal.Check(b) != api.OK || i > 0 && b.Seq != blocks[i-1].Seq+1 {
			return false
		}
		for _, r := range b.Revs {
			if r.Kind != api.RevPut && r.Kind != api.RevDrop {
				continue
			}
			rows, _ := table.History(s, r.Table, b.Seq)
			found := 0
			for _, row := range rows {
				if row.Doc == r.Doc && row.Version == r.Version && row.Seq == b.Seq && row.Gone == (r.Kind == api.RevDrop) && value.Compare(row.Value, r.Value) == 0 {
					found++
				}
			}
			if found != 1 {
				return false
			}
		}
	}
	return blocks[n-1].Seq == s.Seq && blocks[0].Seq <= x.View.Base.Seq+1
}

// keyed tells whether a Read's field of a value is there, and its key.
func keyed(v api.Value, read api.Read) bool {
	for _, f := range v.Fields {
		if f.Name == read.Field {
			return value.Compare(f.Value, read.Key) == 0
		}
	}
	return false
}

// doesDisturb tells whether a revision disturbs a session.
func doesDisturb(r api.Rev, x api.Session, s api.State) bool {
	was := api.Value{}
	rows, _ := table.History(s, r.Table, s.Seq)
	for _, row := range rows {
		if row.Doc == r.Doc && r.Version > 0 && row.Version == r.Version-1 {
			was = row.Value
		}
	}
	for _, read := range x.Reads {
		if read.Table == r.Table && (read.All || r.Kind <= api.RevIndex || keyed(r.Value, read) || keyed(was, read)) {
			return true
		}
	}
	for _, y := range x.View.Revs {
		switch {
		case r.Kind == api.RevPut && y.Kind == api.RevPut && r.Version+y.Version == 0:
			return true
		case r.Kind == api.RevTable && y.Kind == api.RevTable && r.Table == y.Table:
			return true
		case r.Kind == api.RevIndex && y.Kind == api.RevIndex && r.Table == y.Table && r.Value.S == y.Value.S:
			return true
		}
	}
	return false
}

// saidDisturbed is Disturbed of anything.
func saidDisturbed(x api.Session, s api.State, blocks []api.Block) (bool, api.Errno) {
	if !isRight(x) {
		return false, api.ErrState
	}
	if why := table.Check(s); why != api.OK {
		return false, why
	}
	if !doFit(x, s, blocks) {
		return false, api.ErrChain
	}
	is := false
	for _, b := range blocks {
		for _, r := range b.Revs {
			is = is || b.Seq > x.View.Base.Seq && doesDisturb(r, x, s)
		}
	}
	return is, api.OK
}

// saidCommit is Commit of anything.
func saidCommit(x api.Session, s api.State, blocks []api.Block, prev string) made {
	if !isRight(x) || x.Dead || len(x.View.Revs) == 0 {
		return made{Why: api.ErrState}
	}
	is, why := saidDisturbed(x, s, blocks)
	if why != api.OK {
		return made{Why: why}
	}
	if is {
		return made{Why: api.ErrConflict}
	}
	b, why := journal.Make(s.Seq+1, prev, x.Statements, x.View.Revs)
	if why != api.OK {
		return made{Why: why}
	}
	next := s
	for _, r := range b.Revs {
		if next, why = table.Do(next, b.Seq, r); why != api.OK {
			return made{Why: api.ErrConflict}
		}
	}
	return made{Block: b, State: next}
}
