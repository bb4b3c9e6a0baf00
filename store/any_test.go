package store_test

import (
	"math/rand"
	"strings"
	"testing"

	"codicil/api"
	"codicil/ledger"
	"codicil/store"
)

// maker makes anything of chance.
type maker struct{ *rand.Rand }

func newMaker(seed int64) *maker { return &maker{rand.New(rand.NewSource(seed))} }

// pick is one of several.
func pick[T any](m *maker, l ...T) T { return l[m.Intn(len(l))] }

// statement is one, most times; most ask for a key.
func (m *maker) statement() string {
	table := pick(m, "t", "t", "t", "u", "w")
	key := pick(m, "a", "a", "a", "a", "b") + " = " + pick(m, "1", "2", "3", "4", "5", "6", "7", "8", "'x'")
	where := pick(m, " WHERE "+key, " WHERE "+key, " WHERE "+key, " WHERE "+key, " WHERE "+key+" AND b > 1")
	if m.Intn(12) == 0 {
		where = pick(m, "", " WHERE b < 3", " WHERE a = NULL", " WHERE c IS NULL")
	}
	switch m.Intn(24) {
	case 0:
		return "CREATE TABLE " + pick(m, "w", "x", "y")
	case 1:
		return "CREATE INDEX ON " + table + " (" + pick(m, "a", "b", "c") + ")"
	case 2, 3:
		return "INSERT INTO " + table + " {" + pick(m, "a: ", "b: ") + pick(m, "1", "2", "3", "4", "'x'") + "}"
	case 4:
		return pick(m, "INSERT INTO t 5", "nothing", "SELECT * FROM x", "SELECT a < 'x' AS a FROM "+table+where, "'\xff'", "SELECT * FROM t"+strings.Repeat(" ", 1010))
	case 5, 6, 7, 8, 9, 12, 13, 14, 15, 16:
		return "UPDATE " + table + " SET " + pick(m, "a", "b", "c", "c", "d") + " = " + pick(m, "1", "2", "3", "a + 1", "b", "c") + where
	case 10:
		return "DELETE FROM " + table + " WHERE " + key
	case 11:
		return "SELECT * FROM HISTORY(" + table + ") WHERE doc < 3"
	}
	return "SELECT " + pick(m, "*", "a AS a, b AS x") + " FROM " + table + where + pick(m, "", " ORDER BY a DESC")
}

// world is a store to which things happen, the blocks whose commits were OK, and the block whose commit the power broke off, if it did.
type world struct {
	s     api.Store
	acked []api.Block
	off   []api.Block
}

// newWorld is one of a store that has some documents.
func newWorld(t *testing.T) *world {
	t.Helper()
	w := &world{s: fresh()}
	for _, texts := range [][]string{
		{"CREATE TABLE t", "CREATE TABLE u", "CREATE TABLE w", "CREATE INDEX ON t (a)", "CREATE INDEX ON t (b)", "CREATE INDEX ON u (a)"},
		{"INSERT INTO t {a: 1, b: 1}", "INSERT INTO t {a: 2, b: 1}", "INSERT INTO t {a: 3}", "INSERT INTO u {a: 1}", "INSERT INTO t {b: 5}", "INSERT INTO t {a: 8, b: 9}"},
	} {
		id := w.do(t, begin()).Id
		for _, text := range texts {
			w.do(t, exec(id, text, api.MaxFuel))
		}
		w.do(t, commit(id))
	}
	return w
}

// do does a call, which is held against the chapter; the store is right behind it, and has what was promised.
func (w *world) do(t *testing.T, c call) told {
	t.Helper()
	was := w.s
	got := asSaid(t, was, c)
	w.s = got.Store
	if store.Check(w.s) != api.OK {
		t.Fatalf("%s behind %s is not right", show(w.s), show(c))
	}
	switch {
	case c.what == "Commit" && got.Seq > 0:
		w.acked = append(w.acked, w.s.Ledger.Blocks[got.Seq-1])
	case c.what == "Commit" && got.Why == api.ErrDown:
		l, _, _ := ledger.Commit(was.Ledger, c.id)
		w.off = l.Blocks[len(w.acked):]
	case c.what == "Crash":
		if n := len(w.s.Ledger.Blocks); n > len(w.acked) {
			w.acked = append(w.acked, w.off...)
		}
		w.off = nil
		if len(w.s.Ledger.Sessions) != 0 || w.s.Ledger.Last != 0 || w.s.Broken {
			t.Fatalf("behind a crash: %s", show(w.s))
		}
	}
	if !same(w.s.Ledger.Blocks, w.acked) {
		t.Fatalf("19.5: %s: %s, not %s", show(c), show(w.s.Ledger.Blocks), show(w.acked))
	}
	return got
}

// step is one that chance takes.
func (w *world) step(t *testing.T, m *maker) (call, told) {
	t.Helper()
	l := w.s.Ledger
	c := begin()
	switch n := m.Intn(60); {
	case n == 0 || w.s.Broken && n%3 == 0:
		loose := len(w.s.Disk.Data) - w.s.Disk.Synced
		c = crash(pick(m, -1, m.Intn(loose+1), loose-1, loose, loose, loose+1, 1<<20))
	case n == 1:
		// What is not the store's own to change: how much room there is, and when the power goes.
		w.s.Disk.Cap = len(w.s.Disk.Data) + pick(m, 0, 100, 300, 1000, 1<<16)
	case n < 4 && !w.s.Broken:
		w.s.Disk.Fuse = pick(m, 0, 0, 1, 1, 2, 3, -1)
	case n < 14 || len(l.Sessions) == 0:
	default:
		id := l.Sessions[m.Intn(len(l.Sessions))].Id
		if m.Intn(30) == 0 {
			id = m.Intn(l.Last+3) - 1
		}
		c = exec(id, m.statement(), pick(m, api.MaxFuel, api.MaxFuel, api.MaxFuel, api.MaxFuel, 60, 20))
		switch {
		case n < 25:
			c = commit(id)
		case n < 27:
			c = abort(id)
		}
	}
	return c, w.do(t, c)
}

// again fails, unless the blocks' Statements, done one by one on a disk without anything, come to this disk.
func (w *world) again(t *testing.T) {
	t.Helper()
	s := fresh()
	for _, b := range w.acked {
		x, id, _ := store.Begin(s)
		for _, text := range b.Statements {
			x, _, _ = store.Exec(x, id, text, api.MaxFuel)
		}
		next, seq, why := store.Commit(x, id)
		if why != api.OK || seq != b.Seq || !same(next.Ledger.Blocks[seq-1], b) {
			t.Fatalf("P7: %q: block %d, error %d", b.Statements, seq, why)
		}
		s = next
	}
	if s.Disk.Data != framed(w.acked) {
		t.Fatalf("P7: the disk is %s, not %s", show(s.Disk.Data), show(framed(w.acked)))
	}
}

// 19.2, 19.3, 19.5, 19.6, P7, P8: several sessions one beside the other, crashes and full disks among them.
func TestWhateverIsDone(t *testing.T) {
	m := newMaker(195)
	count := map[string]map[api.Errno]int{}
	whole := 0
	for range 40 {
		w := newWorld(t)
		for range 100 {
			was := len(w.acked)
			c, got := w.step(t, m)
			if count[c.what] == nil {
				count[c.what] = map[api.Errno]int{}
			}
			count[c.what][got.Why]++
			if c.what == "Crash" && len(w.acked) > was {
				whole++
			}
		}
		w.again(t)
	}
	for what, l := range map[string][]api.Errno{
		"Begin":  {api.OK, api.ErrState, api.ErrFull},
		"Exec":   {api.OK, api.ErrState, api.ErrUnknown, api.ErrSyntax, api.ErrName, api.ErrFuel, api.ErrLong, api.ErrType},
		"Commit": {api.OK, api.ErrState, api.ErrConflict, api.ErrFull, api.ErrDown},
		"Abort":  {api.OK},
		"Crash":  {api.OK},
	} {
		for _, why := range l {
			if count[what][why] < 3 {
				t.Errorf("%s met %v", what, count[what])
			}
		}
	}
	if whole < 8 {
		t.Errorf("%d blocks were there whole, though the power broke their commit off", whole)
	}
}

// spoil is a store that may not be right any more; what is handed in stays as it was.
func (m *maker) spoil(t *testing.T, s api.Store) api.Store {
	t.Helper()
	s = twin(s)
	i := m.Intn(len(s.Ledger.Blocks))
	at := m.Intn(len(s.Disk.Data))
	switch m.Intn(14) {
	case 0:
		s.Broken = !s.Broken
	case 1:
		s.Disk.Down = !s.Disk.Down
	case 2:
		s.Disk.Synced = pick(m, 0, at, len(s.Disk.Data), len(s.Disk.Data)+1, -1)
	case 3:
		s.Disk.Cap = pick(m, len(s.Disk.Data)-1, len(s.Disk.Data), api.MaxDisk, api.MaxDisk+1, -1)
	case 4:
		s.Disk.Data = s.Disk.Data[:at]
	case 5:
		s.Disk = on(s.Disk.Data[:at])
	case 6:
		s.Disk = on(s.Disk.Data[:at] + pick(m, "x", "\x00") + s.Disk.Data[at+1:])
	case 7:
		s.Disk = on(s.Disk.Data + pick(m, "x", framed(s.Ledger.Blocks[i:i+1]), framed(behind(t, s.Ledger.Blocks, []api.Rev{tableRev("new")})[len(s.Ledger.Blocks):])))
	case 8:
		s.Disk = on(framed(s.Ledger.Blocks[:i]))
	case 9:
		s.Ledger.Blocks = s.Ledger.Blocks[:i]
	case 10:
		s.Ledger = of(t, s.Ledger.Blocks[:i]).Ledger
	case 11:
		s.Ledger.State.Last++
	case 12:
		s.Ledger.Last += m.Intn(3) - 1
	case 13:
		s.Ledger.Prev = pick(m, nought, "", s.Ledger.Prev)
	}
	return s
}

// 19.1 to 19.3: any stores and disks, spoiled ones, too.
func TestAnyStores(t *testing.T) {
	m := newMaker(191)
	right, wrong := 0, 0
	for range 15 {
		w := newWorld(t)
		for range 40 {
			w.step(t, m)
			s := m.spoil(t, w.s)
			for range m.Intn(2) {
				if len(s.Ledger.Blocks) > 0 && len(s.Disk.Data) > 0 && isRight(s) {
					s = m.spoil(t, s)
				}
			}
			is := store.Check(s) == api.OK
			if is != isRight(s) {
				t.Fatalf("Check(%s) tells %v", show(s), is)
			}
			if is {
				right++
			} else {
				wrong++
			}
			id := m.Intn(max(s.Ledger.Last, 0)+3) - 1
			if len(s.Ledger.Sessions) > 0 && m.Intn(4) > 0 {
				id = s.Ledger.Sessions[m.Intn(len(s.Ledger.Sessions))].Id
			}
			for _, c := range []call{begin(), exec(id, m.statement(), pick(m, -1, 0, 9, 99, api.MaxFuel, api.MaxFuel+1)), commit(id), abort(id), crash(m.Intn(400) - 1)} {
				asSaid(t, s, c)
			}
			d := s.Disk
			d.Fuse = pick(m, -1, 0, 1, 2)
			isOpened(t, d)
		}
	}
	if right < 60 || wrong < 150 {
		t.Errorf("%d were right, %d not", right, wrong)
	}
}
