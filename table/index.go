package table

import (
	"sync"

	"codicil/api"
	"codicil/btree"
	"codicil/value"
)

// index finds current documents by a field.
type index struct {
	field string
	docs  []api.Doc
	once  sync.Once
	keys  *btree.Tree
}

// find are the Ids of those whose field lies within both bounds, by its value, then by Ids.
func (x *index) find(low, high api.Bound) ([]uint64, api.Errno) {
	entries, why := x.filled().Range(low, high)
	if why != api.OK {
		return nil, why
	}
	var out []uint64
	for _, e := range entries {
		out = append(out, e.Ids...)
	}
	return out, api.OK
}

// filled is the tree of the documents' keys, which is filled when it is asked for first.
func (x *index) filled() *btree.Tree {
	x.once.Do(func() {
		x.keys = btree.New()
		for _, d := range x.docs {
			last := d.Versions[len(d.Versions)-1]
			// A document that is gone has no fields; of a right one all parts are right keys, and no table has more documents than a tree has room for.
			if key, has := value.Get(last.Value, []string{x.field}); has {
				x.keys.Put(key, d.Id)
			}
		}
	})
	return x.keys
}
