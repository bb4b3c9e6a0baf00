// Package own has copies of what layers are handed: their answers are new memory, in all their lists and texts. It tells, too, whether two states are one another's copies.
package own

import (
	"slices"
	"strings"

	"codicil/api"
	"codicil/value"
)

// Disk is a disk in memory of its own.
func Disk(d api.Disk) api.Disk {
	d.Data = strings.Clone(d.Data)
	return d
}

// Ledger is a ledger in memory of its own.
func Ledger(l api.Ledger) api.Ledger {
	l.Blocks = list(l.Blocks, block)
	l.State = State(l.State)
	l.Prev = strings.Clone(l.Prev)
	l.Sessions = list(l.Sessions, Session)
	return l
}

// View is a view in memory of its own.
func View(v api.View) api.View {
	return api.View{Base: State(v.Base), Revs: list(v.Revs, Rev)}
}

// Session is a session in memory of its own.
func Session(x api.Session) api.Session {
	x.View = View(x.View)
	x.Reads = list(x.Reads, read)
	x.Statements = list(x.Statements, strings.Clone)
	return x
}

// State is a state in memory of its own.
func State(s api.State) api.State {
	s.Tables = list(s.Tables, func(t api.Table) api.Table {
		return api.Table{Name: strings.Clone(t.Name), Indexes: list(t.Indexes, strings.Clone), Docs: list(t.Docs, doc)}
	})
	return s
}

// Rev is a revision in memory of its own.
func Rev(r api.Rev) api.Rev {
	r.Table = strings.Clone(r.Table)
	r.Value = valueOf(r.Value)
	return r
}

// Same tells whether two states are alike in all of their parts.
func Same(a, b api.State) bool {
	return a.Seq == b.Seq && a.Last == b.Last && slices.EqualFunc(a.Tables, b.Tables, sameTables)
}

func sameTables(a, b api.Table) bool {
	return a.Name == b.Name && slices.Equal(a.Indexes, b.Indexes) && slices.EqualFunc(a.Docs, b.Docs, sameDocs)
}

func sameDocs(a, b api.Doc) bool {
	return a.Id == b.Id && slices.EqualFunc(a.Versions, b.Versions, sameVersions)
}

func sameVersions(a, b api.Version) bool {
	return a.Seq == b.Seq && a.Gone == b.Gone && value.Same(a.Value, b.Value)
}

func block(b api.Block) api.Block {
	b.Prev = strings.Clone(b.Prev)
	b.Root = strings.Clone(b.Root)
	b.Statements = list(b.Statements, strings.Clone)
	b.Revs = list(b.Revs, Rev)
	return b
}

func doc(d api.Doc) api.Doc {
	d.Versions = list(d.Versions, func(v api.Version) api.Version {
		v.Value = valueOf(v.Value)
		return v
	})
	return d
}

func read(r api.Read) api.Read {
	r.Table = strings.Clone(r.Table)
	r.Field = strings.Clone(r.Field)
	r.Key = valueOf(r.Key)
	return r
}

func valueOf(v api.Value) api.Value {
	out, _ := value.Get(v, nil)
	return out
}

// list makes no list of an empty one: nil and empty lists are alike.
func list[T any](l []T, copyOf func(T) T) []T {
	if len(l) == 0 {
		return nil
	}
	out := make([]T, len(l))
	for i, x := range l {
		out[i] = copyOf(x)
	}
	return out
}
