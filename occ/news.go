package occ

import (
	"iter"

	"codicil/api"
	"codicil/journal"
	"codicil/table"
	"codicil/value"
)

// disturbed tells whether a right session is, by the blocks that lead to a state.
func disturbed(x api.Session, s api.State, blocks []api.Block) (bool, api.Errno) {
	if why := table.Check(s); why != api.OK {
		return false, why
	}
	if !fit(x, s, blocks) {
		return false, api.ErrChain
	}
	for r := range news(x, blocks) {
		for disturbs := range disturbing(x, s) {
			if disturbs(r) {
				return true, api.OK
			}
		}
	}
	return false, api.OK
}

// fit tells whether blocks lead to a state from a session's Base on, or from ahead of it.
func fit(x api.Session, s api.State, blocks []api.Block) bool {
	base := x.View.Base.Seq
	if len(blocks) == 0 {
		return base == s.Seq
	}
	next := blocks[0].Seq
	if next > base+1 {
		return false
	}
	for _, b := range blocks {
		if b.Seq != next || journal.Check(b) != api.OK || !hasAll(s, b) {
			return false
		}
		next++
	}
	return next == s.Seq+1
}

// hasAll tells whether a state has each version that a right block says.
func hasAll(s api.State, b api.Block) bool {
	for _, r := range b.Revs {
		if r.Kind != api.RevPut && r.Kind != api.RevDrop {
			continue
		}
		v, is := versionOf(s, r.Table, r.Doc, r.Version)
		// A version that is gone is the one whose Value is null, as that of a RevDrop is.
		if !is || v.Seq != b.Seq || !value.Same(v.Value, r.Value) {
			return false
		}
	}
	return true
}

// versionOf is a version of a document in a table, and whether there is one; it is not copied.
func versionOf(s api.State, table string, doc, version uint64) (api.Version, bool) {
	for _, t := range s.Tables {
		if t.Name != table {
			continue
		}
		for _, d := range t.Docs {
			if d.Id == doc && version < uint64(len(d.Versions)) {
				return d.Versions[version], true
			}
		}
	}
	return api.Version{}, false
}

// news yields the revisions of the blocks behind a session's Base.
func news(x api.Session, blocks []api.Block) iter.Seq[api.Rev] {
	return func(yield func(api.Rev) bool) {
		for _, b := range blocks {
			if b.Seq <= x.View.Base.Seq {
				continue
			}
			for _, r := range b.Revs {
				if !yield(r) {
					return
				}
			}
		}
	}
}

// disturbing yields what tells whether a revision disturbs a session: by each of its Reads, then by each of its Revs.
func disturbing(x api.Session, s api.State) iter.Seq[func(api.Rev) bool] {
	return func(yield func(func(api.Rev) bool) bool) {
		for _, read := range x.Reads {
			if !yield(func(r api.Rev) bool { return r.Table == read.Table && changes(r, read, s) }) {
				return
			}
		}
		for _, mine := range x.View.Revs {
			if !yield(func(r api.Rev) bool { return clash(r, mine) }) {
				return
			}
		}
	}
}

// changes tells whether a revision of a Read's table changes what was read: a document that had the key, or has it now.
func changes(r api.Rev, read api.Read, s api.State) bool {
	if read.All || r.Kind == api.RevTable || r.Kind == api.RevIndex || hasKey(r.Value, read) {
		return true
	}
	if r.Version == 0 {
		return false
	}
	ahead, _ := versionOf(s, r.Table, r.Doc, r.Version-1)
	return hasKey(ahead.Value, read)
}

// hasKey tells whether a Read's field is there, and its value the key.
func hasKey(v api.Value, read api.Read) bool {
	key, has := value.Get(v, []string{read.Field})
	return has && value.Compare(key, read.Key) == 0
}

// clash tells whether of two revisions just one can be done, whatever the sessions read: there is one next document, and no table and no index is made twice.
func clash(a, b api.Rev) bool {
	if a.Kind != b.Kind {
		return false
	}
	switch a.Kind {
	case api.RevTable:
		return a.Table == b.Table
	case api.RevIndex:
		return a.Table == b.Table && value.Compare(a.Value, b.Value) == 0
	case api.RevPut:
		return a.Version == 0 && b.Version == 0
	}
	return false
}
