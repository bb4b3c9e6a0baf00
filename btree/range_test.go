package btree_test

import (
	"math/rand"
	"slices"
	"testing"

	"codicil/api"
	"codicil/btree"
	"codicil/value"
)

// bounds are all that there are around some keys: none, and at each key, open and not; without Has a Key is nothing.
func bounds(keys []api.Value) []api.Bound {
	out := []api.Bound{{}, {Open: true}, {Key: keys[len(keys)/2]}, {Open: true, Key: api.Value{N: 1}}}
	for _, key := range keys {
		out = append(out, from(key), above(key))
	}
	return out
}

func isRange(t *testing.T, x *btree.Tree, m model, low, high api.Bound) {
	t.Helper()
	got, why := x.Range(low, high)
	if want := m.between(low, high); why != api.OK || !sameEntries(got, want) {
		t.Fatalf("Range(%s, %s) of %d: %s, error %d, not %s", show(low), show(high), len(m), show(got), why, show(want))
	}
}

// 7.2: each kind of bound, at a key, between two, below all and above all, the lower one above the upper one, too.
func TestRangeOfNumbers(t *testing.T) {
	for n := range 24 {
		m := model(numbered(n))
		if n > 2 {
			m.put(pair{whole(4), 77})
		}
		x := treeOf(t, m)
		var keys []api.Value
		for i := range 2*n + 4 {
			keys = append(keys, whole(int64(i)))
		}
		for _, low := range bounds(keys) {
			for _, high := range bounds(keys) {
				isRange(t, x, m, low, high)
			}
		}
	}
}

func TestRangeOfGreatTrees(t *testing.T) {
	r := rand.New(rand.NewSource(76))
	for _, n := range []int{63, 64, 65, 200, 255, 256, api.MaxLeaves} {
		m := model(numbered(n))
		x := treeOf(t, shuffled(r, m))
		isRange(t, x, m, api.Bound{}, api.Bound{})
		for range 60 {
			a, b := whole(int64(r.Intn(2*n+4))), whole(int64(r.Intn(2*n+4)))
			isRange(t, x, m, from(a), from(b))
			isRange(t, x, m, above(a), above(b))
			isRange(t, x, m, from(a), above(a))
			isRange(t, x, m, from(a), from(a))
			isRange(t, x, m, from(a), api.Bound{})
			isRange(t, x, m, api.Bound{}, above(b))
		}
	}
}

// Bounds and keys of all kinds.
func TestRangeOfAllKinds(t *testing.T) {
	var m model
	for i, key := range rising() {
		if i%2 == 0 {
			m.put(pair{key, uint64(i)})
			m.put(pair{key, uint64(90 - i)})
		}
	}
	x := treeOf(t, m)
	for _, low := range bounds(rising()) {
		for _, high := range bounds(rising()) {
			isRange(t, x, m, low, high)
		}
	}
}

// 7.2: low's error, then high's; a Key of a bound without Has is not looked at.
func TestRangeOfWrongKeys(t *testing.T) {
	for _, x := range []*btree.Tree{btree.New(), treeOf(t, numbered(9))} {
		all, _ := x.Range(api.Bound{}, api.Bound{})
		for _, w := range wrongKeys() {
			for _, wrong := range []api.Bound{from(w.key), above(w.key)} {
				for _, right := range []api.Bound{{}, from(whole(4)), above(whole(-4)), {Key: text("\xff")}} {
					if l, why := x.Range(wrong, right); len(l) != 0 || why != w.why {
						t.Errorf("Range(%s, %s): %v, error %d, not %d", show(wrong), show(right), l, why, w.why)
					}
					if l, why := x.Range(right, wrong); len(l) != 0 || why != w.why {
						t.Errorf("Range(%s, %s): %v, error %d, not %d", show(right), show(wrong), l, why, w.why)
					}
				}
				for _, other := range wrongKeys() {
					if l, why := x.Range(wrong, from(other.key)); len(l) != 0 || why != w.why {
						t.Errorf("Range(%s, %s): %v, error %d, not %d", show(wrong), show(other), l, why, w.why)
					}
				}
			}
			if l, why := x.Range(api.Bound{Key: w.key}, api.Bound{Open: true, Key: w.key}); !sameEntries(l, all) || why != api.OK {
				t.Errorf("Range without bounds, keys %s: %v, error %d", show(w.key), l, why)
			}
		}
	}
}

// 7.5: a range that is cut anywhere has both parts' keys.
func TestRangeCut(t *testing.T) {
	x := treeOf(t, shuffled(rand.New(rand.NewSource(77)), numbered(40)))
	var keys []api.Value
	for i := range 84 {
		keys = append(keys, whole(int64(i)))
	}
	for _, low := range []api.Bound{{}, from(whole(10)), above(whole(10)), from(whole(11))} {
		for _, high := range []api.Bound{{}, from(whole(60)), above(whole(60)), from(whole(61))} {
			whole, _ := x.Range(low, high)
			for _, key := range keys {
				if !lies(key, low, high) {
					continue
				}
				ahead, _ := x.Range(low, above(key))
				behind, _ := x.Range(from(key), high)
				if !sameEntries(whole, append(ahead, behind...)) {
					t.Fatalf("cut ahead of %v: %v and %v", key, ahead, behind)
				}
				ahead, _ = x.Range(low, from(key))
				behind, _ = x.Range(above(key), high)
				if !sameEntries(whole, append(ahead, behind...)) {
					t.Fatalf("cut behind %v: %v and %v", key, ahead, behind)
				}
			}
		}
	}
}

// 7.2: the depth of keys that rise, that fall and that come in any order, held against how many there are.
func TestDepth(t *testing.T) {
	r := rand.New(rand.NewSource(78))
	rises := numbered(api.MaxLeaves)
	falls := slices.Clone(rises)
	slices.Reverse(falls)
	var zigzag []pair
	for i := range api.MaxLeaves / 2 {
		zigzag = append(zigzag, rises[i], falls[i])
	}
	for _, l := range [][]pair{rises, falls, zigzag, shuffled(r, rises), shuffled(r, rises)} {
		x := btree.New()
		for i, p := range l {
			mustPut(t, x, p.key, p.id)
			isDeep(t, x, i+1)
		}
		for i, p := range shuffled(r, l) {
			mustDrop(t, x, p.key, p.id)
			isDeep(t, x, len(l)-i-1)
		}
	}
}

func isDeep(t *testing.T, x *btree.Tree, keys int) {
	t.Helper()
	d := x.Depth()
	if d > digits(keys+1) || d != depths()[keys] || (d == 0) != (keys == 0) || keys >= 100 && d < 2 {
		t.Fatalf("Depth: %d of %d keys", d, keys)
	}
}

// Trees that are all but full, whose keys go here and come there.
func TestDepthOfKeysThatComeAndGo(t *testing.T) {
	r := rand.New(rand.NewSource(80))
	for _, n := range []int{3, 7, 15, 16, 31, 60, 63, 64, 127, 255} {
		m := model(numbered(n))
		for i := range m {
			m[i].id = 1
		}
		x := treeOf(t, m)
		for range 600 {
			near := int64(r.Intn(2*n + 2))
			for range 1 + r.Intn(4) {
				p := m[r.Intn(len(m))]
				mustDrop(t, x, p.key, p.id)
				m.drop(p)
				isDeep(t, x, len(m))
				if len(m) == 0 {
					break
				}
			}
			for len(m) < n {
				p := pair{whole(near), 1}
				near++
				if m.put(p) == api.OK {
					mustPut(t, x, p.key, p.id)
					isDeep(t, x, len(m))
				}
			}
		}
		isAs(t, x, m)
	}
}

// Numbers lie on no levels of their own.
func TestDepthOfNumbers(t *testing.T) {
	x := btree.New()
	for i := range uint64(api.MaxLeaves) {
		mustPut(t, x, whole(int64(i%3)), i)
		isDeep(t, x, min(int(i)+1, 3))
	}
	for i := range uint64(api.MaxLeaves - 3) {
		mustDrop(t, x, whole(int64(i%3)), i)
		isDeep(t, x, 3)
	}
}

// 7.6: trees with the same pairs answer alike, in whatever order these came and others went.
func TestAllOrders(t *testing.T) {
	l := append(numbered(5), pair{whole(4), 9})
	for _, o := range orders(l) {
		x := treeOf(t, o)
		isAs(t, x, l)
		for i, p := range o[:3] {
			mustDrop(t, x, p.key, p.id)
			isAs(t, x, model(o[i+1:]))
		}
	}
}

func TestOtherKeysThatWent(t *testing.T) {
	r := rand.New(rand.NewSource(79))
	for _, n := range []int{1, 3, 4, 15, 16, 63, 64, 100, 255, 256} {
		for range 5 {
			l := numbered(n)
			x := btree.New()
			var others []pair
			for i := range r.Intn(400) {
				others = append(others, pair{whole(int64(2*r.Intn(500) + 1)), uint64(i)})
			}
			for _, p := range shuffled(r, append(slices.Clone(l), others...)) {
				mustPut(t, x, p.key, p.id)
			}
			for _, p := range shuffled(r, others) {
				mustDrop(t, x, p.key, p.id)
			}
			isAs(t, x, l)
		}
	}
}

// 7.3: answers are new memory.
func TestNewMemory(t *testing.T) {
	keys := append(rising(), doc("name", list(text("part"), blob("other"))))
	x := btree.New()
	for i, key := range keys {
		mustPut(t, x, key, uint64(i))
		mustPut(t, x, key, uint64(i+100))
	}
	all, _ := x.Range(api.Bound{}, api.Bound{})
	again, _ := x.Range(api.Bound{}, api.Bound{})
	apart(t, all, again, keys)
	low, high := from(text("a")), from(doc("b", whole(1)))
	some, _ := x.Range(low, high)
	apart(t, some, all, low, high, keys)
	for _, key := range keys {
		ids, _ := x.Find(key)
		other, _ := x.Find(key)
		apart(t, ids, other, all, key)
	}
}

// 7.3: what is done with answers and keys behind the call is nothing to the tree.
func TestStaysAsItWas(t *testing.T) {
	name, spoilName := lent("name")
	word, spoilWord := lent("word")
	bytes, spoilBytes := lent("bytes")
	key := doc(name, list(text(word), blob(bytes)))
	twin := doc("name", list(text("word"), blob("bytes")))
	x := treeOf(t, numbered(20))
	mustPut(t, x, key, 5)
	mustPut(t, x, key, 6)
	if !value.Same(key, twin) {
		t.Fatal("Put changed the key")
	}
	spoilName()
	spoilWord()
	spoilBytes()
	key.Fields[0].Value.List[0] = whole(1)
	key.Fields[0] = api.Field{Name: "z"}
	want := append(model(numbered(20)), pair{twin, 5}, pair{twin, 6})
	for range 2 {
		isAs(t, x, want)
		ids, _ := x.Find(twin)
		l, _ := x.Range(api.Bound{}, api.Bound{})
		for i := range ids {
			ids[i] = 0
		}
		for i := range l {
			for j := range l[i].Ids {
				l[i].Ids[j] = 0
			}
			for j := range l[i].Key.Fields {
				l[i].Key.Fields[j].Value.List[0] = api.Value{}
				l[i].Key.Fields[j] = api.Field{}
			}
			l[i] = api.Entry{}
		}
		_ = append(ids, 1)
		_ = append(l, api.Entry{})
	}
	isAs(t, x, want)
	bound := from(doc("name", list(text("word"), blob("bytes"))))
	x.Range(bound, bound)
	x.Find(bound.Key)
	x.Drop(bound.Key, 6)
	if !value.Same(bound.Key, twin) {
		t.Error("a call changed its key")
	}
}
