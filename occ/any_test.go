package occ_test

import (
	"math/rand"
	"slices"
	"strings"
	"testing"

	"codicil/api"
	"codicil/occ"
)

// maker makes anything of chance.
type maker struct{ *rand.Rand }

func newMaker(seed int64) *maker { return &maker{rand.New(rand.NewSource(seed))} }

// pick is one of several.
func pick[T any](m *maker, l ...T) T { return l[m.Intn(len(l))] }

// statement is one, most times; most ask for a key.
func (m *maker) statement() string {
	table := pick(m, "t", "t", "t", "u", "w")
	key := pick(m, "a", "a", "a", "a", "b") + " = " + pick(m, "1", "2", "3", "4", "5", "6", "7", "8", "'x'")
	where := pick(m, " WHERE "+key, " WHERE "+key, " WHERE "+key, " WHERE "+key, " WHERE "+key, " WHERE "+key+" AND b > 1")
	if m.Intn(12) == 0 {
		where = pick(m, "", " WHERE b < 3", " WHERE a = NULL", " WHERE c IS NULL")
	}
	switch m.Intn(24) {
	case 0:
		return "CREATE TABLE " + pick(m, "w", "x", "y")
	case 1:
		return "CREATE INDEX ON " + table + " (" + pick(m, "a", "b", "c") + ")"
	case 2, 3:
		return "INSERT INTO " + table + " {" + pick(m, "a: ", "b: ") + pick(m, "1", "2", "3", "4", "'x'") + "}"
	case 4:
		return pick(m, "INSERT INTO t 5", "nothing", "SELECT * FROM x", "SELECT a < 'x' AS a FROM "+table+where, "'\xff'", "SELECT * FROM t"+strings.Repeat(" ", 1010))
	case 5, 6, 7, 8, 9, 12, 13, 14, 15, 16:
		return "UPDATE " + table + " SET " + pick(m, "a", "b", "c", "c", "d") + " = " + pick(m, "1", "2", "3", "a + 1", "b", "c") + where
	case 10:
		return "DELETE FROM " + table + " WHERE " + key
	case 11:
		return "SELECT * FROM HISTORY(" + table + ") WHERE doc < 3"
	}
	return "SELECT " + pick(m, "*", "a AS a, b AS x") + " FROM " + table + where + pick(m, "", " ORDER BY a DESC")
}

// live is a session that is open, and all that it was asked and came to.
type live struct {
	x     api.Session
	texts []string
	fuels []int
	came  []told
}

// do does a statement.
func (y *live) do(t *testing.T, text string, fuel int) {
	t.Helper()
	got := execAsSaid(t, y.x, text, fuel)
	y.x, y.texts, y.fuels = got.Session, append(y.texts, text), append(y.fuels, fuel)
	got.Session = api.Session{}
	y.came = append(y.came, got)
}

// world is what happens to several sessions, one beside the other.
type world struct {
	line
	open []live
	done []live // those that were committed
}

// step is one that chance takes; it tells what Commit came to, if it was one.
func (w *world) step(t *testing.T, m *maker) (api.Errno, bool) {
	t.Helper()
	if len(w.open) == 0 || len(w.open) < 6 && m.Intn(3) == 0 {
		x, why := occ.Begin(m.Intn(9), w.state)
		if why != api.OK {
			t.Fatalf("Begin: error %d", why)
		}
		w.open = append(w.open, live{x: x})
		return 0, false
	}
	i := m.Intn(len(w.open))
	if m.Intn(3) > 0 {
		w.open[i].do(t, m.statement(), pick(m, api.MaxFuel, api.MaxFuel, api.MaxFuel, api.MaxFuel, 60, 20))
		return 0, false
	}
	y := w.open[i]
	w.open = slices.Delete(w.open, i, i+1)
	if m.Intn(8) == 0 {
		return 0, false
	}
	got := commitAsSaid(t, y.x, w.state, w.since(y.x), w.prev(t))
	if got.Why == api.OK {
		w.line = line{state: got.State, blocks: append(slices.Clip(w.blocks), got.Block)}
		w.done = append(w.done, y)
	}
	return got.Why, true
}

// 16.5, 16.7, P7: sessions that are committed came to just what they come to if they are done one by one, in the order of their commits.
func TestOneByOne(t *testing.T) {
	m := newMaker(165)
	met, beside := map[api.Errno]int{}, 0
	for range 120 {
		w := world{line: small(t).with(t, "INSERT INTO t {a: 5, b: 3}", "INSERT INTO t {a: 6}", "INSERT INTO t {a: 7, b: 2}", "INSERT INTO t {a: 8}", "INSERT INTO u {a: 2}", "INSERT INTO u {a: 3}")}
		first := w.line
		for range 90 {
			if why, was := w.step(t, m); was {
				met[why]++
			}
		}
		alone := first
		for i, y := range w.done {
			if y.x.View.Base.Seq < alone.state.Seq {
				beside++
			}
			again := live{x: alone.opened(t)}
			again.x.Id = y.x.Id
			for j, text := range y.texts {
				again.do(t, text, y.fuels[j])
			}
			if !same(again.came, y.came) {
				t.Fatalf("%q came to %s, alone to %s", y.texts, show(y.came), show(again.came))
			}
			alone = alone.committed(t, again.x)
			if b := w.blocks[len(first.blocks)+i]; !same(alone.blocks[len(alone.blocks)-1], b) {
				t.Fatalf("%q: %s, alone %s", y.texts, show(b), show(alone.blocks[len(alone.blocks)-1]))
			}
		}
		if !same(alone.state, w.state) {
			t.Fatalf("%s, alone %s", show(w.state), show(alone.state))
		}
	}
	if met[api.OK] < 200 || met[api.ErrConflict] < 100 || met[api.ErrState] < 50 || beside < 100 {
		t.Errorf("met %v, %d beside others", met, beside)
	}
}

// 16.6: a session since whose beginning nothing was committed is never disturbed, and is committed, unless its block may not be.
func TestAlone(t *testing.T) {
	m := newMaker(166)
	for range 150 {
		l := small(t)
		y := live{x: l.opened(t)}
		for range m.Intn(20) {
			y.do(t, m.statement(), api.MaxFuel)
			fits(t, "alone", y.x, l.state, l.blocks[m.Intn(4):])
		}
		got := commitAsSaid(t, y.x, l.state, nil, nought)
		if (got.Why == api.OK) != (!y.x.Dead && len(y.x.View.Revs) > 0) {
			t.Fatalf("%q: error %d", y.texts, got.Why)
		}
	}
}

// spoilSession is a session that may not be right any more; what is handed in stays as it was.
func (m *maker) spoilSession(x api.Session) api.Session {
	x = twin(x)
	switch m.Intn(9) {
	case 0:
		x.View.Base.Seq += uint64(m.Intn(3)) - 1
	case 1:
		x.View.Revs = append(x.View.Revs, pick(m, tableRev("x"), tableRev("t"), indexRev("t", "c"), putRev("t", x.View.Base.Last+1, 0, doc())))
	case 2:
		x.Reads = append(x.Reads, api.Read{Table: pick(m, "t", "u"), All: m.Intn(4) == 0, Field: pick(m, "a", "b"), Key: number(int64(m.Intn(6)))})
	case 3:
		x.Statements = append(x.Statements, pick(m, "text", "\xff", xs(1024), xs(1025)))
	case 4:
		x.Dead = !x.Dead
	case 5:
		x.Reads = make([]api.Read, pick(m, 63, 64, 65))
	case 6:
		x.Statements = make([]string, pick(m, 63, 64, 65))
	case 7:
		x.Reads = nil
	case 8:
		x.View.Revs = nil
	}
	return x
}

// spoilBlocks are blocks that may not fit any more; what is handed in stays as it was.
func (m *maker) spoilBlocks(t *testing.T, l []api.Block) []api.Block {
	t.Helper()
	l = twin(l)
	if len(l) == 0 {
		return l
	}
	i := m.Intn(len(l))
	switch m.Intn(6) {
	case 0:
		l = slices.Delete(l, i, i+1)
	case 1:
		l = append(l, l[i])
	case 2:
		l[i].Seq++
	case 3:
		l[i].Revs = l[i].Revs[1:]
	case 4:
		l = l[i:]
	case 5:
		b := block(t, l[i].Seq, append(l[i].Revs, pick(m, tableRev("x"), indexRev("t", "c"), putRev("t", 1, 1, doc("a", number(1))), dropRev("t", 2, 1)))...)
		l[i] = b
	}
	return l
}

// spoilState is a state that may not be right, or not what blocks made, any more; what is handed in stays as it was.
func (m *maker) spoilState(s api.State) api.State {
	s = twin(s)
	x := &s.Tables[m.Intn(len(s.Tables))]
	switch m.Intn(6) {
	case 0:
		s.Seq += uint64(m.Intn(3)) - 1
	case 1:
		s.Last += uint64(m.Intn(2))
	case 2:
		x.Name = pick(m, "t", "z", "")
	case 3:
		if len(x.Docs) > 0 {
			d := &x.Docs[m.Intn(len(x.Docs))]
			d.Versions = d.Versions[:len(d.Versions)-1]
		}
	case 4:
		if len(x.Docs) > 0 {
			v := x.Docs[m.Intn(len(x.Docs))].Versions
			v[m.Intn(len(v))].Seq++
		}
	case 5:
		if len(x.Docs) > 0 {
			v := x.Docs[m.Intn(len(x.Docs))].Versions
			v[0].Value = doc("a", number(int64(m.Intn(4))))
		}
	}
	return s
}

// 16.1 to 16.3: any sessions, states and blocks, spoiled ones, too.
func TestAsSaid(t *testing.T) {
	m := newMaker(161)
	met, disturbed := map[api.Errno]int{}, map[bool]int{}
	for range 60 {
		w := world{line: small(t)}
		for range 40 {
			w.step(t, m)
			if len(w.open) == 0 {
				continue
			}
			x, s, blocks := w.open[m.Intn(len(w.open))].x, w.state, w.blocks
			blocks = blocks[m.Intn(int(x.View.Base.Seq)+1):]
			if m.Intn(2) == 0 {
				x = m.spoilSession(x)
			}
			if m.Intn(4) == 0 {
				s = m.spoilState(s)
			}
			if m.Intn(4) == 0 {
				blocks = m.spoilBlocks(t, blocks)
			}
			if right := occ.Check(x) == api.OK; right != isRight(x) {
				t.Fatalf("Check(%s): %v", show(x), right)
			}
			is, why := disturbedAsSaid(t, x, s, blocks)
			if why == api.OK {
				disturbed[is]++
			}
			met[why]++
			met[commitAsSaid(t, x, s, blocks, pick(m, nought, nought, nought, "short")).Why]++
			execAsSaid(t, x, m.statement(), pick(m, -1, 0, 9, 99, api.MaxFuel, api.MaxFuel+1))
		}
	}
	for _, why := range []api.Errno{api.OK, api.ErrState, api.ErrChain, api.ErrConflict, api.ErrLong} {
		if met[why] < 20 || disturbed[true] < 50 || disturbed[false] < 50 {
			t.Fatalf("met %v, disturbed %v", met, disturbed)
		}
	}
}
