// Package own has copies of what layers are handed: their answers are new memory, in all their lists and texts.
package own

import (
	"strings"

	"codicil/api"
	"codicil/value"
)

// View is a view in memory of its own.
func View(v api.View) api.View {
	return api.View{Base: State(v.Base), Revs: list(v.Revs, rev)}
}

// Session is a session in memory of its own.
func Session(x api.Session) api.Session {
	x.View = View(x.View)
	x.Reads = list(x.Reads, read)
	x.Statements = list(x.Statements, strings.Clone)
	return x
}

// State is a state in memory of its own.
func State(s api.State) api.State {
	s.Tables = list(s.Tables, func(t api.Table) api.Table {
		return api.Table{Name: strings.Clone(t.Name), Indexes: list(t.Indexes, strings.Clone), Docs: list(t.Docs, doc)}
	})
	return s
}

func doc(d api.Doc) api.Doc {
	d.Versions = list(d.Versions, func(v api.Version) api.Version {
		v.Value = valueOf(v.Value)
		return v
	})
	return d
}

func rev(r api.Rev) api.Rev {
	r.Table = strings.Clone(r.Table)
	r.Value = valueOf(r.Value)
	return r
}

func read(r api.Read) api.Read {
	r.Table = strings.Clone(r.Table)
	r.Field = strings.Clone(r.Field)
	r.Key = valueOf(r.Key)
	return r
}

func valueOf(v api.Value) api.Value {
	out, _ := value.Get(v, nil)
	return out
}

// list makes no list of an empty one: nil and empty lists are alike.
func list[T any](l []T, copyOf func(T) T) []T {
	if len(l) == 0 {
		return nil
	}
	out := make([]T, len(l))
	for i, x := range l {
		out[i] = copyOf(x)
	}
	return out
}
