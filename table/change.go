package table

import (
	"slices"
	"strings"

	"codicil/api"
)

// behind is the state behind right revisions of the block that has the number seq, or the first one's error that can't be done.
func behind(s api.State, seq uint64, revs ...api.Rev) (api.State, api.Errno) {
	x := change{state: copyState(s), seq: seq}
	for _, r := range revs {
		if why := x.do(r); why != api.OK {
			return api.State{}, why
		}
	}
	x.state.Seq = seq
	return x.state, api.OK
}

// change is what a block's revisions do with a state, which is no one else's.
type change struct {
	state api.State
	seq   uint64
}

func (x *change) do(r api.Rev) api.Errno {
	i := slices.IndexFunc(x.state.Tables, named(r.Table))
	if r.Kind == api.RevTable {
		return x.addTable(r.Table, i >= 0)
	}
	if i < 0 {
		return api.ErrName
	}
	t := &x.state.Tables[i]
	switch {
	case r.Kind == api.RevIndex:
		return addIndex(t, r.Value.S)
	case r.Kind == api.RevPut && r.Version == 0:
		return x.addDoc(t, r)
	}
	return x.addVersion(t, r)
}

func (x *change) addTable(name string, known bool) api.Errno {
	switch {
	case known:
		return api.ErrTwice
	case len(x.state.Tables) == api.MaxTables:
		return api.ErrFull
	}
	x.state.Tables = append(x.state.Tables, api.Table{Name: strings.Clone(name)})
	return api.OK
}

func addIndex(t *api.Table, field string) api.Errno {
	switch {
	case field == "":
		return api.ErrLong
	case slices.Contains(t.Indexes, field):
		return api.ErrTwice
	case len(t.Indexes) == api.MaxFields:
		return api.ErrFull
	}
	t.Indexes = append(t.Indexes, strings.Clone(field))
	return api.OK
}

func (x *change) addDoc(t *api.Table, r api.Rev) api.Errno {
	switch {
	case r.Doc != x.state.Last+1:
		return api.ErrRange
	case len(t.Docs) == api.MaxDocs:
		return api.ErrFull
	}
	// Its Id is above all that there are, so that behind all is its place.
	t.Docs = append(t.Docs, api.Doc{Id: r.Doc, Versions: []api.Version{x.version(r)}})
	x.state.Last = r.Doc
	return api.OK
}

func (x *change) addVersion(t *api.Table, r api.Rev) api.Errno {
	i := slices.IndexFunc(t.Docs, func(d api.Doc) bool { return d.Id == r.Doc })
	if i < 0 {
		return api.ErrUnknown
	}
	d := &t.Docs[i]
	switch {
	case !isCurrent(*d):
		return api.ErrState
	case r.Version != uint64(len(d.Versions)):
		return api.ErrRange
	}
	d.Versions = append(d.Versions, x.version(r))
	return api.OK
}

// version is what a revision makes of a document; the Value of a RevDrop is null.
func (x *change) version(r api.Rev) api.Version {
	return api.Version{Seq: x.seq, Gone: r.Kind == api.RevDrop, Value: own(r.Value)}
}
