package ledger_test

import (
	"math/rand"
	"slices"
	"strings"
	"testing"

	"codicil/api"
	"codicil/ledger"
)

// maker makes anything of chance.
type maker struct{ *rand.Rand }

func newMaker(seed int64) *maker { return &maker{rand.New(rand.NewSource(seed))} }

// pick is one of several.
func pick[T any](m *maker, l ...T) T { return l[m.Intn(len(l))] }

// statement is one, most times; most ask for a key.
func (m *maker) statement() string {
	table := pick(m, "t", "t", "t", "u", "w")
	key := pick(m, "a", "a", "a", "a", "b") + " = " + pick(m, "1", "2", "3", "4", "5", "6", "7", "8", "'x'")
	where := pick(m, " WHERE "+key, " WHERE "+key, " WHERE "+key, " WHERE "+key, " WHERE "+key+" AND b > 1")
	if m.Intn(12) == 0 {
		where = pick(m, "", " WHERE b < 3", " WHERE a = NULL", " WHERE c IS NULL")
	}
	switch m.Intn(24) {
	case 0:
		return "CREATE TABLE " + pick(m, "w", "x", "y")
	case 1:
		return "CREATE INDEX ON " + table + " (" + pick(m, "a", "b", "c") + ")"
	case 2, 3:
		return "INSERT INTO " + table + " {" + pick(m, "a: ", "b: ") + pick(m, "1", "2", "3", "4", "'x'") + "}"
	case 4:
		return pick(m, "INSERT INTO t 5", "nothing", "SELECT * FROM x", "SELECT a < 'x' AS a FROM "+table+where, "'\xff'", "SELECT * FROM t"+strings.Repeat(" ", 1010))
	case 5, 6, 7, 8, 9, 12, 13, 14, 15, 16:
		return "UPDATE " + table + " SET " + pick(m, "a", "b", "c", "c", "d") + " = " + pick(m, "1", "2", "3", "a + 1", "b", "c") + where
	case 10:
		return "DELETE FROM " + table + " WHERE " + key
	case 11:
		return "SELECT * FROM HISTORY(" + table + ") WHERE doc < 3"
	}
	return "SELECT " + pick(m, "*", "a AS a, b AS x") + " FROM " + table + where + pick(m, "", " ORDER BY a DESC")
}

// asked is what a session was asked, and what it came to.
type asked struct {
	exec   call
	result api.Result
	why    api.Errno
}

// world is a ledger to which things happen, what its open sessions were asked, and what those that made blocks were, in order.
type world struct {
	l    api.Ledger
	open map[int][]asked
	done [][]asked
}

// newWorld is one of a ledger that has a good many documents.
func newWorld(t *testing.T) *world {
	t.Helper()
	w := &world{l: ledger.New(), open: map[int][]asked{}}
	for _, texts := range [][]string{
		{"CREATE TABLE t", "CREATE TABLE u", "CREATE TABLE w", "CREATE INDEX ON t (a)", "CREATE INDEX ON t (b)", "CREATE INDEX ON u (a)"},
		{"INSERT INTO t {a: 1, b: 1}", "INSERT INTO t {a: 2, b: 1}", "INSERT INTO t {a: 3}", "INSERT INTO u {a: 1}", "INSERT INTO t {b: 5}", "INSERT INTO t {a: 8, b: 9}"},
		{"INSERT INTO t {a: 5, b: 3}", "INSERT INTO t {a: 6}", "INSERT INTO t {a: 7, b: 2}", "INSERT INTO u {a: 2}", "INSERT INTO u {a: 3}"},
	} {
		id := w.do(t, begin()).Id
		for _, text := range texts {
			w.do(t, exec(id, text, api.MaxFuel))
		}
		w.do(t, commit(id))
	}
	return w
}

// do does a call, which is held against the chapter; the ledger is right behind it, and has all blocks that it had.
func (w *world) do(t *testing.T, c call) told {
	t.Helper()
	was := w.l
	got := asSaid(t, was, c)
	if ledger.Check(got.Ledger) != api.OK {
		t.Fatalf("17.5: %s behind %s is not right", show(got.Ledger), show(c))
	}
	n := len(was.Blocks)
	if len(got.Ledger.Blocks) < n || !same(got.Ledger.Blocks[:n], was.Blocks) {
		t.Fatalf("17.6: %s took a block away", show(c))
	}
	w.l = got.Ledger
	switch {
	case got.Why == api.ErrUnknown:
	case c.what == "Exec":
		w.open[c.id] = append(w.open[c.id], asked{c, got.Result, got.Why})
	case got.Seq > 0:
		w.done = append(w.done, w.open[c.id])
	}
	if got.Seq != uint64(len(w.l.Blocks)) && got.Seq != 0 || (got.Seq > 0) != (len(w.l.Blocks) > n) {
		t.Fatalf("%s: block %d of %d", show(c), got.Seq, len(w.l.Blocks))
	}
	return got
}

// step is one that chance takes.
func (w *world) step(t *testing.T, m *maker) (call, told) {
	t.Helper()
	c := begin()
	if len(w.l.Sessions) > 0 && m.Intn(4) > 0 {
		id := w.l.Sessions[m.Intn(len(w.l.Sessions))].Id
		if m.Intn(30) == 0 {
			id = m.Intn(w.l.Last+3) - 1
		}
		c = exec(id, m.statement(), pick(m, api.MaxFuel, api.MaxFuel, api.MaxFuel, api.MaxFuel, 60, 20))
		switch m.Intn(12) {
		case 0, 1, 2:
			c = commit(id)
		case 3:
			c = abort(id)
		}
	}
	return c, w.do(t, c)
}

// again fails, unless the blocks' Statements, done one by one from New on, come to these blocks.
func (w *world) again(t *testing.T) {
	t.Helper()
	l := ledger.New()
	for _, b := range w.l.Blocks {
		x, id, _ := ledger.Begin(l)
		for _, text := range b.Statements {
			x, _, _ = ledger.Exec(x, id, text, api.MaxFuel)
		}
		next, seq, why := ledger.Commit(x, id)
		if why != api.OK || seq != b.Seq || !same(next.Blocks[seq-1], b) {
			t.Fatalf("17.7: %q: block %d, error %d, %s, not %s", b.Statements, seq, why, show(next.Blocks), show(b))
		}
		l = next
	}
	if !same(l.Blocks, w.l.Blocks) || !same(l.State, w.l.State) || l.Prev != w.l.Prev {
		t.Fatalf("17.7: %s, not %s", show(l), show(w.l))
	}
}

// alone fails, unless the sessions that made blocks, one by one from New on, come to just what they came to.
func (w *world) alone(t *testing.T) {
	t.Helper()
	l := ledger.New()
	for i, asks := range w.done {
		x, id, _ := ledger.Begin(l)
		for _, a := range asks {
			next, result, why := ledger.Exec(x, id, a.exec.text, a.exec.fuel)
			if why != a.why || !same(result, a.result) {
				t.Fatalf("P7: %s came to %s, error %d, alone to %s, error %d", show(a.exec), show(a.result), a.why, show(result), why)
			}
			x = next
		}
		next, _, why := ledger.Commit(x, id)
		if why != api.OK || !same(next.Blocks[i], w.l.Blocks[i]) {
			t.Fatalf("P7: block %d: error %d, %s, not %s", i+1, why, show(next.Blocks), show(w.l.Blocks[i]))
		}
		l = next
	}
}

// 17.2, 17.3, 17.5 to 17.7, P7: several sessions one beside the other, whatever is done.
func TestWhateverIsDone(t *testing.T) {
	m := newMaker(175)
	count := map[api.Errno]int{}
	commits, beside, reads := map[api.Errno]int{}, 0, 0
	for range 50 {
		w := newWorld(t)
		for range 100 {
			was := w.l
			c, got := w.step(t, m)
			count[got.Why]++
			if c.what != "Commit" {
				continue
			}
			commits[got.Why]++
			switch i := place(was, c.id); {
			case got.Seq > 0 && was.Sessions[i].View.Base.Seq < was.State.Seq:
				beside++
			case got.Why == api.OK && got.Seq == 0:
				reads++
			}
		}
		w.again(t)
		w.alone(t)
	}
	for _, why := range []api.Errno{api.OK, api.ErrConflict, api.ErrState, api.ErrUnknown} {
		if commits[why] < 5 {
			t.Errorf("commits met %v", commits)
		}
	}
	for _, why := range []api.Errno{api.ErrFull, api.ErrSyntax, api.ErrName, api.ErrFuel, api.ErrLong, api.ErrType} {
		if count[why] < 5 {
			t.Errorf("met %v", count)
		}
	}
	if beside < 20 || reads < 20 {
		t.Errorf("%d were committed beside others, %d only read", beside, reads)
	}
}

// spoil is a ledger that may not be right any more; what is handed in stays as it was.
func (m *maker) spoil(t *testing.T, l api.Ledger) api.Ledger {
	t.Helper()
	l = twin(l)
	if len(l.Sessions) == 0 {
		l = met(t, l, begin(), api.OK).Ledger
	}
	x := &l.Sessions[m.Intn(len(l.Sessions))]
	i := m.Intn(len(l.Blocks))
	switch m.Intn(18) {
	case 0:
		l.Blocks = slices.Delete(l.Blocks, i, i+1)
	case 1:
		l.Blocks = append(l.Blocks, l.Blocks[i])
	case 2:
		l.Blocks[i].Seq++
	case 3:
		l.Blocks[i].Prev = pick(m, nought, l.Prev, "")
	case 4:
		l.Blocks[i].Statements = append(l.Blocks[i].Statements, pick(m, "text", "\xff"))
	case 5:
		l.Blocks = behind(t, l.Blocks, []api.Rev{pick(m, tableRev("t"), tableRev("new"), putRev("t", 1, 0, doc()))})
	case 6:
		l = of(t, behind(t, l.Blocks, []api.Rev{tableRev("new")}))
	case 7:
		l.State.Seq++
	case 8:
		l.State.Last++
	case 9:
		l.State.Tables[0].Docs[0].Versions[0].Value = pick(m, doc(), null(), l.State.Tables[0].Docs[0].Versions[0].Value)
	case 10:
		l.Prev = pick(m, nought, "", l.Blocks[i].Prev, digest(l.Blocks[i]))
	case 11:
		x.Id += m.Intn(3) - 1
	case 12:
		l.Last += m.Intn(3) - 1
	case 13:
		x.View.Base.Seq = uint64(m.Intn(5))
	case 14:
		x.View = api.View{Base: of(t, l.Blocks[:i]).State}
	case 15:
		x.View = api.View{Base: of(t, behind(t, l.Blocks[:i], []api.Rev{tableRev("new")})).State}
	case 16:
		x.Statements = many(pick(m, 0, 63, 64, 65), name)
	case 17:
		x.View.Revs = append(x.View.Revs, pick(m, tableRev("new"), tableRev("t"), putRev("t", x.View.Base.Last+1, 0, doc())))
	}
	return l
}

// 17.1 to 17.3: any ledgers, spoiled ones, too.
func TestAnyLedgers(t *testing.T) {
	m := newMaker(171)
	right, wrong := 0, 0
	for range 12 {
		w := newWorld(t)
		for range 60 {
			w.step(t, m)
			l := m.spoil(t, w.l)
			foldsTo(t, "any", l.Blocks)
			if checked(t, "any", l) {
				right++
			} else {
				wrong++
			}
			id := m.Intn(l.Last+3) - 1
			if len(l.Sessions) > 0 && m.Intn(4) > 0 {
				id = l.Sessions[m.Intn(len(l.Sessions))].Id
			}
			for _, c := range []call{begin(), exec(id, m.statement(), pick(m, -1, 0, 9, 99, api.MaxFuel, api.MaxFuel+1)), commit(id), abort(id)} {
				asSaid(t, l, c)
			}
		}
	}
	if right < 100 || wrong < 200 {
		t.Errorf("%d were right, %d not", right, wrong)
	}
}
