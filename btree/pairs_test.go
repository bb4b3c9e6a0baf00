package btree_test

import (
	"math"
	"math/rand"
	"runtime"
	"slices"
	"testing"

	"codicil/api"
	"codicil/btree"
)

func TestExample(t *testing.T) {
	x := treeOf(t, []pair{{whole(1), 7}, {whole(1), 3}, {text("a"), 7}})
	l, why := x.Range(api.Bound{}, api.Bound{})
	if want := []api.Entry{{Key: whole(1), Ids: []uint64{3, 7}}, {Key: text("a"), Ids: []uint64{7}}}; why != api.OK || !sameEntries(l, want) {
		t.Errorf("Range: %v, error %d", l, why)
	}
	if x.Count() != 3 {
		t.Errorf("Count: %d", x.Count())
	}
}

// 7.1: a nil Tree is none, whatever else is handed in.
func TestNoTree(t *testing.T) {
	var x *btree.Tree
	keys := []api.Value{{}, whole(1)}
	for _, w := range wrongKeys() {
		keys = append(keys, w.key)
	}
	for _, key := range keys {
		if why := x.Put(key, 1); why != api.ErrNil {
			t.Errorf("Put(%s): error %d", show(key), why)
		}
		if why := x.Drop(key, 1); why != api.ErrNil {
			t.Errorf("Drop(%s): error %d", show(key), why)
		}
		if ids, why := x.Find(key); len(ids) != 0 || why != api.ErrNil {
			t.Errorf("Find(%s): %v, error %d", show(key), ids, why)
		}
		for _, b := range []api.Bound{{}, from(key)} {
			if l, why := x.Range(b, from(key)); len(l) != 0 || why != api.ErrNil {
				t.Errorf("Range(%s): %v, error %d", show(key), l, why)
			}
		}
	}
	if x.Count() != 0 || x.Depth() != 0 {
		t.Errorf("Count %d, Depth %d", x.Count(), x.Depth())
	}
}

// 7.1: a tree without anything, whoever made it; each is one of its own.
func TestTreeWithoutAnything(t *testing.T) {
	btree.New().Put(whole(1), 1)
	for _, x := range []*btree.Tree{btree.New(), {}} {
		isAs(t, x, nil)
		if x.Count() != 0 || x.Depth() != 0 {
			t.Errorf("Count %d, Depth %d", x.Count(), x.Depth())
		}
		if ids, why := x.Find(whole(1)); len(ids) != 0 || why != api.OK {
			t.Errorf("Find: %v, error %d", ids, why)
		}
		if l, why := x.Range(from(whole(0)), above(whole(2))); len(l) != 0 || why != api.OK {
			t.Errorf("Range: %v, error %d", l, why)
		}
		if why := x.Drop(whole(1), 1); why != api.ErrUnknown {
			t.Errorf("Drop: error %d", why)
		}
		mustPut(t, x, whole(1), 1)
		isAs(t, x, model{{whole(1), 1}})
	}
}

// 7.1, 7.2: keys that are not right, ahead of all other errors; nothing is changed.
func TestWrongKeys(t *testing.T) {
	for _, l := range [][]pair{nil, numbered(5), numbered(api.MaxLeaves)} {
		x := treeOf(t, l)
		for _, w := range wrongKeys() {
			if why := x.Put(w.key, 1); why != w.why {
				t.Errorf("Put(%s): error %d, not %d", show(w.key), why, w.why)
			}
			if why := x.Drop(w.key, 1); why != w.why {
				t.Errorf("Drop(%s): error %d, not %d", show(w.key), why, w.why)
			}
			if ids, why := x.Find(w.key); len(ids) != 0 || why != w.why {
				t.Errorf("Find(%s): %v, error %d, not %d", show(w.key), ids, why, w.why)
			}
		}
		isAs(t, x, l)
	}
}

// 7.1: right keys of all kinds, in each of which nothing else is found.
func TestKeysOfAllKinds(t *testing.T) {
	var m model
	x := btree.New()
	for i, key := range shuffled(rand.New(rand.NewSource(71)), rising()) {
		if ids, why := x.Find(key); len(ids) != 0 || why != api.OK {
			t.Errorf("Find(%s): %v, error %d", show(key), ids, why)
		}
		mustPut(t, x, key, uint64(i))
		m.put(pair{key, uint64(i)})
		isAs(t, x, m)
	}
	l, _ := x.Range(api.Bound{}, api.Bound{})
	for i, key := range rising() {
		if !sameEntries(l[i:i+1], []api.Entry{{Key: key, Ids: m.of(key)}}) {
			t.Errorf("%d: %s, not %s", i, show(l[i]), show(key))
		}
	}
}

// P1: nil and empty lists are alike.
func TestEmptyLists(t *testing.T) {
	for _, kind := range []api.Kind{api.KindNull, api.KindInt, api.KindList, api.KindStruct} {
		bare, empty := api.Value{Kind: kind}, api.Value{Kind: kind, List: []api.Value{}, Fields: make([]api.Field, 0, 3)}
		x := treeOf(t, []pair{{bare, 1}})
		if why := x.Put(empty, 1); why != api.ErrTwice {
			t.Errorf("kind %d: Put: error %d", kind, why)
		}
		if ids, why := x.Find(empty); len(ids) != 1 || why != api.OK {
			t.Errorf("kind %d: Find: %v, error %d", kind, ids, why)
		}
		if l, why := x.Range(from(empty), from(empty)); len(l) != 1 || why != api.OK {
			t.Errorf("kind %d: Range: %v, error %d", kind, l, why)
		}
		mustDrop(t, x, empty, 1)
		isAs(t, x, nil)
	}
}

// 7.1: the same pair twice; the same number under another key, another number under the same key are other pairs.
func TestPutTwice(t *testing.T) {
	x := btree.New()
	var m model
	for _, p := range []pair{{whole(1), 5}, {whole(2), 5}, {whole(1), 6}, {text("1"), 5}} {
		mustPut(t, x, p.key, p.id)
		m.put(p)
		for _, q := range m {
			if why := x.Put(q.key, q.id); why != api.ErrTwice {
				t.Errorf("Put(%v, %d): error %d", q.key, q.id, why)
			}
		}
		isAs(t, x, m)
	}
}

// 7.1: one key with many numbers, in whatever order they come and go.
func TestManyNumbers(t *testing.T) {
	r := rand.New(rand.NewSource(72))
	ids := []uint64{0, 1, 2, 3, math.MaxUint64, math.MaxUint64 - 1, 1 << 63, 1<<63 - 1, 1 << 62}
	for range 100 {
		ids = append(ids, r.Uint64())
	}
	var m model
	x := treeOf(t, []pair{{whole(0), 1}, {whole(2), 1}})
	m = model{{whole(0), 1}, {whole(2), 1}}
	for _, id := range shuffled(r, ids) {
		mustPut(t, x, whole(1), id)
		m.put(pair{whole(1), id})
		isAs(t, x, m)
	}
	for _, id := range shuffled(r, ids) {
		mustDrop(t, x, whole(1), id)
		m.drop(pair{whole(1), id})
		isAs(t, x, m)
		if why := x.Drop(whole(1), id); why != api.ErrUnknown {
			t.Fatalf("Drop of %d again: error %d", id, why)
		}
	}
}

// 7.1: MaxLeaves pairs and one more, many keys or one.
func TestFull(t *testing.T) {
	one := make([]pair, api.MaxLeaves)
	for i := range one {
		one[i] = pair{text("k"), uint64(3 * i)}
	}
	for _, l := range [][]pair{numbered(api.MaxLeaves), one, append(numbered(api.MaxLeaves/2), one[:api.MaxLeaves/2]...)} {
		x := treeOf(t, l)
		isAs(t, x, l)
		for _, p := range []pair{{whole(-1), 1}, {whole(3), 1}, {whole(1 << 40), 1}, {l[0].key, 99999}, {l[len(l)-1].key, 99999}} {
			if why := x.Put(p.key, p.id); why != api.ErrFull {
				t.Errorf("Put(%v, %d): error %d", p.key, p.id, why)
			}
			if why := x.Drop(p.key, p.id); why != api.ErrUnknown {
				t.Errorf("Drop(%v, %d): error %d", p.key, p.id, why)
			}
		}
		if why := x.Put(l[7].key, l[7].id); why != api.ErrTwice {
			t.Errorf("Put twice: error %d", why)
		}
		isAs(t, x, l)
		mustDrop(t, x, l[7].key, l[7].id)
		mustPut(t, x, whole(-1), 1)
		if why := x.Put(l[7].key, l[7].id); why != api.ErrFull {
			t.Errorf("Put of one more: error %d", why)
		}
		mustDrop(t, x, whole(-1), 1)
		mustPut(t, x, l[7].key, l[7].id)
		isAs(t, x, l)
	}
}

// 7.1: drops of what is not there, and of a key's last number.
func TestDrop(t *testing.T) {
	l := model{{whole(1), 1}, {whole(1), 2}, {whole(3), 2}}
	x := treeOf(t, l)
	for _, p := range []pair{{whole(1), 0}, {whole(1), 3}, {whole(3), 1}, {whole(2), 2}, {whole(0), 1}, {whole(4), 2}, {text("1"), 1}, {api.Value{}, 1}} {
		if why := x.Drop(p.key, p.id); why != api.ErrUnknown {
			t.Errorf("Drop(%v, %d): error %d", p.key, p.id, why)
		}
		isAs(t, x, l)
	}
	for len(l) > 0 {
		p := l[0]
		mustDrop(t, x, p.key, p.id)
		l.drop(p)
		isAs(t, x, l)
		if why := x.Drop(p.key, p.id); why != api.ErrUnknown {
			t.Errorf("Drop(%v, %d) again: error %d", p.key, p.id, why)
		}
		if ids, why := x.Find(p.key); why != api.OK || !slices.Equal(ids, l.of(p.key)) {
			t.Errorf("Find(%v): %v, error %d", p.key, ids, why)
		}
	}
	if x.Depth() != 0 || x.Count() != 0 {
		t.Errorf("Depth %d, Count %d", x.Depth(), x.Count())
	}
}

// 7.4, 7.6: whatever is put and dropped, in any order.
func TestPutAndDrop(t *testing.T) {
	r := rand.New(rand.NewSource(74))
	for round := range 60 {
		x := btree.New()
		var m model
		many := 1 + r.Intn(100)
		for range 200 {
			p := pair{whole(int64(r.Intn(many))), uint64(r.Intn(3))}
			if round%2 == 1 {
				p.key = rising()[r.Intn(len(rising()))]
			}
			if r.Intn(5) < 2+round%3 {
				if why, want := x.Put(p.key, p.id), m.put(p); why != want {
					t.Fatalf("Put(%s, %d): error %d, not %d", show(p.key), p.id, why, want)
				}
			} else if why, want := x.Drop(p.key, p.id), m.drop(p); why != want {
				t.Fatalf("Drop(%s, %d): error %d, not %d", show(p.key), p.id, why, want)
			}
			isAs(t, x, m)
		}
	}
}

// 7.4: great trees, filled and emptied.
func TestFillAndEmpty(t *testing.T) {
	r := rand.New(rand.NewSource(75))
	for range 4 {
		l := numbered(api.MaxLeaves)
		x := btree.New()
		var m model
		for i, p := range shuffled(r, l) {
			mustPut(t, x, p.key, p.id)
			m.put(p)
			if i%97 == 0 {
				isAs(t, x, m)
			}
		}
		isAs(t, x, l)
		for i, p := range shuffled(r, l) {
			mustDrop(t, x, p.key, p.id)
			m.drop(p)
			if i%97 == 0 || len(m) < 10 {
				isAs(t, x, m)
			}
		}
	}
}

func TestLeavesNoGoroutine(t *testing.T) {
	before := runtime.NumGoroutine()
	x := treeOf(t, numbered(200))
	x.Find(whole(4))
	x.Range(from(whole(4)), above(whole(44)))
	x.Drop(whole(4), 1)
	x.Put(api.Value{N: 1}, 1)
	x.Depth()
	if now := runtime.NumGoroutine(); now > before {
		t.Errorf("%d goroutines, %d ahead", now, before)
	}
}
