package table

import (
	"strings"

	"codicil/api"
	"codicil/value"
)

// copyState is a state in memory of its own.
func copyState(s api.State) api.State {
	s.Tables = copies(s.Tables, func(t api.Table) api.Table {
		return api.Table{Name: strings.Clone(t.Name), Indexes: copies(t.Indexes, strings.Clone), Docs: copies(t.Docs, copyDoc)}
	})
	return s
}

func copyDoc(d api.Doc) api.Doc {
	d.Versions = copies(d.Versions, func(v api.Version) api.Version {
		v.Value = own(v.Value)
		return v
	})
	return d
}

// own is a value in memory of its own.
func own(v api.Value) api.Value {
	out, _ := value.Get(v, nil)
	return out
}

// copies makes no list of an empty one: nil and empty lists are alike.
func copies[T any](l []T, copyOf func(T) T) []T {
	if len(l) == 0 {
		return nil
	}
	out := make([]T, len(l))
	for i, x := range l {
		out[i] = copyOf(x)
	}
	return out
}
