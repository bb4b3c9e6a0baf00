package btree

import (
	"iter"
	"slices"

	"codicil/api"
	"codicil/value"
)

// wide is how many keys a node has room for.
const wide = 3

// entry is a key and its numbers, which rise.
type entry struct {
	key api.Value
	ids []uint64
}

// node has keys, which rise; the node below[i] has those that lie ahead of the key i and behind the one ahead of that. Only a node that is full has any below it.
type node struct {
	entries []*entry
	below   [wide + 1]*node
	size    int // how many keys lie here and below
}

// place is how many of a list come ahead of all others.
func place[T any](l []T, ahead func(T) bool) int {
	low, high := 0, len(l)
	for low < high {
		middle := (low + high) / 2
		if ahead(l[middle]) {
			low = middle + 1
		} else {
			high = middle
		}
	}
	return low
}

// place is where a number lies, or would lie, and whether it is there.
func (e *entry) place(id uint64) (int, bool) {
	if e == nil {
		return 0, false
	}
	i := place(e.ids, func(x uint64) bool { return x < id })
	return i, i < len(e.ids) && e.ids[i] == id
}

// placeOf is where a key lies, or would lie, and whether it is there.
func placeOf(l []*entry, key api.Value) (int, bool) {
	i := place(l, func(e *entry) bool { return value.Compare(e.key, key) < 0 })
	return i, i < len(l) && value.Compare(l[i].key, key) == 0
}

// find is what there is of a key; nil, if there is nothing.
func (n *node) find(key api.Value) *entry {
	for n != nil {
		i, here := placeOf(n.entries, key)
		if here {
			return n.entries[i]
		}
		n = n.below[i]
	}
	return nil
}

// within yields what lies within both bounds, rising.
func (n *node) within(low, high api.Bound) iter.Seq[*entry] {
	return func(yield func(*entry) bool) {
		if n == nil {
			return
		}
		from := place(n.entries, func(e *entry) bool { return liesBelow(e.key, low) })
		to := place(n.entries, func(e *entry) bool { return !liesAbove(e.key, high) })
		for i := from; i <= to; i++ {
			for e := range n.below[i].within(low, high) {
				if !yield(e) {
					return
				}
			}
			if i < to && !yield(n.entries[i]) {
				return
			}
		}
	}
}

// all is everything that there is, rising.
func (n *node) all() []*entry {
	return slices.Collect(n.within(api.Bound{}, api.Bound{}))
}

// with is the node with one more key, on at most so many levels, which must have room for it.
func (n *node) with(e *entry, levels int) *node {
	if n == nil {
		return lay([]*entry{e})
	}
	i, _ := placeOf(n.entries, e.key)
	switch {
	case len(n.entries) < wide:
		n.entries = slices.Insert(n.entries, i, e)
	case n.below[i].count() == room(levels-1):
		l := n.all()
		i, _ = placeOf(l, e.key)
		return lay(slices.Insert(l, i, e))
	default:
		n.below[i] = n.below[i].with(e, levels-1)
	}
	n.size++
	return n
}

// without is the node without a key that it has.
func (n *node) without(key api.Value) *node {
	i, here := placeOf(n.entries, key)
	if here {
		l := n.all()
		i, _ = placeOf(l, key)
		return lay(slices.Delete(l, i, i+1))
	}
	n.below[i] = n.below[i].without(key)
	n.size--
	return n
}

// shallow is the node on the fewest levels: so the depth hangs on how many keys there are alone, not on how they came and went.
func (n *node) shallow() *node {
	if n.levels() == fewest(n.count()) {
		return n
	}
	return lay(n.all())
}

// lay is a node of keys that rise, on the fewest levels, with as many below it at each place as at any other.
func lay(l []*entry) *node {
	switch {
	case len(l) == 0:
		return nil
	case len(l) <= wide:
		return &node{entries: slices.Clone(l), size: len(l)}
	}
	n := &node{size: len(l)}
	from := 0
	for i := range n.below {
		to := (len(l)-wide)*(i+1)/(wide+1) + i
		n.below[i] = lay(l[from:to])
		if i < wide {
			n.entries = append(n.entries, l[to])
		}
		from = to + 1
	}
	return n
}

func (n *node) count() int {
	if n == nil {
		return 0
	}
	return n.size
}

func (n *node) levels() int {
	if n == nil {
		return 0
	}
	deepest := 0
	for _, b := range n.below {
		deepest = max(deepest, b.levels())
	}
	return deepest + 1
}

// fewest is on how many levels so many keys find room.
func fewest(keys int) int {
	levels := 0
	for room(levels) < keys {
		levels++
	}
	return levels
}

// room is how many keys so many levels have room for.
func room(levels int) int {
	keys := 0
	for range levels {
		keys = wide + (wide+1)*keys
	}
	return keys
}

// liesBelow tells whether a key is none of a range for its lower bound.
func liesBelow(key api.Value, low api.Bound) bool {
	if !low.Has {
		return false
	}
	c := value.Compare(key, low.Key)
	return c < 0 || c == 0 && low.Open
}

// liesAbove tells whether a key is none of a range for its upper bound.
func liesAbove(key api.Value, high api.Bound) bool {
	if !high.Has {
		return false
	}
	c := value.Compare(key, high.Key)
	return c > 0 || c == 0 && high.Open
}
