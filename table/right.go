package table

import (
	"slices"
	"unicode/utf8"

	"codicil/api"
	"codicil/value"
)

// right tells whether a state is.
func right(s api.State) bool {
	if s.Seq > most || s.Last > most || len(s.Tables) > api.MaxTables {
		return false
	}
	var names []string
	var ids []uint64
	for _, t := range s.Tables {
		if !rightTable(s, t) {
			return false
		}
		names = append(names, t.Name)
		for _, d := range t.Docs {
			ids = append(ids, d.Id)
		}
	}
	return rightNames(names) && allUnlike(ids)
}

// rightTable tells whether a table is, but for what it has in common with others.
func rightTable(s api.State, t api.Table) bool {
	if len(t.Indexes) > api.MaxFields || !rightNames(t.Indexes) || len(t.Docs) > api.MaxDocs {
		return false
	}
	ahead := uint64(0)
	for _, d := range t.Docs {
		if d.Id <= ahead || d.Id > s.Last || !rightVersions(s, d.Versions) {
			return false
		}
		ahead = d.Id
	}
	return true
}

// rightNames tells whether each is one, and none is there twice.
func rightNames(l []string) bool {
	for i, name := range l {
		if name == "" || len(name) > api.MaxText || !utf8.ValidString(name) || slices.Contains(l[:i], name) {
			return false
		}
	}
	return true
}

// allUnlike tells whether no number is there twice.
func allUnlike(l []uint64) bool {
	rising := slices.Sorted(slices.Values(l))
	return len(slices.Compact(rising)) == len(l)
}

// rightVersions tells whether all of a document are.
func rightVersions(s api.State, l []api.Version) bool {
	least := uint64(1)
	for i, v := range l {
		if v.Seq < least || v.Seq > s.Seq || v.Gone && i < len(l)-1 || !rightValue(v) {
			return false
		}
		least = v.Seq
	}
	return len(l) > 0
}

// rightValue tells whether a version's Value is what it may be.
func rightValue(v api.Version) bool {
	if v.Gone {
		return value.Same(v.Value, api.Value{})
	}
	return v.Value.Kind == api.KindStruct && value.Check(v.Value) == api.OK
}
