package occ_test

import (
	"math"
	"slices"
	"testing"

	"codicil/api"
	"codicil/occ"
)

// fits fails, unless blocks fit a session and a state, and do not disturb it.
func fits(t *testing.T, what string, x api.Session, s api.State, blocks []api.Block) {
	t.Helper()
	if is, why := disturbedAsSaid(t, x, s, blocks); is || why != api.OK {
		t.Errorf("%s: %v, error %d", what, is, why)
	}
}

// unfit fails, unless blocks do not fit a session and a state, and nothing else is told.
func unfit(t *testing.T, what string, x api.Session, s api.State, blocks []api.Block) {
	t.Helper()
	if is, why := disturbedAsSaid(t, x, s, blocks); is || why != api.ErrChain {
		t.Errorf("%s: %v, error %d", what, is, why)
	}
	want := made{Why: api.ErrChain}
	if x.Dead || len(x.View.Revs) == 0 {
		want.Why = api.ErrState
	}
	for _, prev := range []string{nought, ""} {
		if got := commitAsSaid(t, x, s, blocks, prev); !same(got, want) {
			t.Errorf("%s: Commit: %s", what, show(got))
		}
	}
}

// 16.3: which blocks fit: up to the state, from behind the Base or from further ahead.
func TestFits(t *testing.T) {
	l := small(t)
	x := l.opened(t, "CREATE TABLE more")
	for i := range 4 {
		fits(t, "ahead of its Base", x, l.state, l.blocks[i:])
	}
	m := l.with(t, "INSERT INTO w {}").with(t, "UPDATE w SET a = 1").with(t, "DELETE FROM w")
	for i := range 4 {
		fits(t, "from its Base on, or from ahead of it", x, m.state, m.blocks[i:])
	}
	unfit(t, "too late", x, m.state, m.blocks[4:])
	unfit(t, "too late by two", x, m.state, m.blocks[5:])
	unfit(t, "none, though the Seqs are unlike", x, m.state, nil)
	unfit(t, "none, though the Seqs are unlike", x, m.state, []api.Block{})
	for i := range m.blocks {
		unfit(t, "up to less than the state", x, m.state, m.blocks[i:5])
		unfit(t, "up to more than the state", x, line{}.state, m.blocks[:i+1])
	}
	unfit(t, "up to more than the state", x, l.state, m.blocks)
	unfit(t, "up to more than the state", x, l.state, m.blocks[3:])
	// A session that is ahead of the state: what is behind its Base is no news, and blocks that lead to the state fit.
	y := m.opened(t, "CREATE TABLE more")
	for i := range 3 {
		fits(t, "ahead of the state", y, l.state, l.blocks[i:])
	}
	unfit(t, "ahead of the state, none", y, l.state, nil)
	fits(t, "nothing at all", api.Session{}, api.State{}, nil)
	unfit(t, "nothing, but a block", api.Session{}, api.State{}, l.blocks[:1])
	fits(t, "one Seq, another state", x, api.State{Seq: 3}, nil)
}

// 16.3: blocks that are not right, or not in a row.
func TestBlocksNotInARow(t *testing.T) {
	l := small(t)
	x := l.opened(t, "CREATE TABLE more")
	m := l.with(t, "INSERT INTO w {}").with(t, "UPDATE w SET a = 1").with(t, "DELETE FROM w")
	for what, with := range map[string]func(l []api.Block) []api.Block{
		"one missing":     func(l []api.Block) []api.Block { return slices.Delete(l, 4, 5) },
		"one twice":       func(l []api.Block) []api.Block { return slices.Insert(l, 4, l[4]) },
		"the last twice":  func(l []api.Block) []api.Block { return append(l, l[5]) },
		"turned round":    func(l []api.Block) []api.Block { slices.Reverse(l); return l },
		"two exchanged":   func(l []api.Block) []api.Block { l[3], l[4] = l[4], l[3]; return l },
		"a wrong Root":    func(l []api.Block) []api.Block { l[4].Root = nought; return l },
		"no Root":         func(l []api.Block) []api.Block { l[0].Root = ""; return l },
		"a short Prev":    func(l []api.Block) []api.Block { l[5].Prev = "short"; return l },
		"no revisions":    func(l []api.Block) []api.Block { l[1].Revs = nil; return l },
		"one less":        func(l []api.Block) []api.Block { l[1].Revs = l[1].Revs[1:]; return l },
		"Seq 0":           func(l []api.Block) []api.Block { l[0].Seq = 0; return l },
		"the greatest":    func(l []api.Block) []api.Block { l[0].Seq = math.MaxUint64; return l },
		"all beyond":      func(l []api.Block) []api.Block { l[5].Seq = 1<<62 + 1; return l[5:] },
		"a wrong text":    func(l []api.Block) []api.Block { l[2].Statements = []string{"\xff"}; return l },
		"a long text":     func(l []api.Block) []api.Block { l[2].Statements = []string{xs(1025)}; return l },
		"many of them":    func(l []api.Block) []api.Block { l[2].Statements = make([]string, 65); return l },
		"a zero block":    func(l []api.Block) []api.Block { return append([]api.Block{{}}, l...) },
		"a zero one last": func(l []api.Block) []api.Block { return append(l, api.Block{}) },
	} {
		unfit(t, what, x, m.state, with(twin(m.blocks)))
	}
	// What Prev says is not looked at.
	other := twin(m.blocks)
	for i := range other {
		other[i].Prev = xs(32)
	}
	fits(t, "another Prev", x, m.state, other)
}

// 16.3: versions that the state has not, or has otherwise, news or not.
func TestVersionsOfBlocks(t *testing.T) {
	base := api.State{Seq: 4, Last: 5, Tables: []api.Table{
		{Name: "t", Docs: []api.Doc{
			{Id: 1, Versions: []api.Version{{Seq: 2, Value: doc("a", number(1))}, {Seq: 3, Value: doc("a", number(2))}, {Seq: 4, Value: doc("a", number(3))}}},
			{Id: 2, Versions: []api.Version{{Seq: 3, Value: doc()}, {Seq: 4, Gone: true}}},
		}},
		{Name: "u", Docs: []api.Doc{{Id: 3, Versions: []api.Version{{Seq: 4, Value: doc("b", number(1))}}}}},
	}}
	for _, seq := range []uint64{4, 3, 0} { // the block is ahead of the Base, or news
		began := base
		began.Seq = seq
		began.Tables = nil
		x := api.Session{View: api.View{Base: began, Revs: []api.Rev{tableRev("more")}}}
		blocks := func(r api.Rev) []api.Block {
			l := []api.Block{block(t, 1, tableRev("t")), block(t, 2, tableRev("u")), block(t, 3, indexRev("t", "z"))}
			return append(l, block(t, 4, r))
		}
		for _, r := range []api.Rev{
			putRev("t", 1, 2, doc("a", number(3))), dropRev("t", 2, 1), putRev("u", 3, 0, doc("b", number(1))),
			tableRev("t"), tableRev("none"), indexRev("t", "none"), indexRev("none", "none"),
		} {
			fits(t, "as it is: "+show(r), x, base, blocks(r))
		}
		for _, r := range []api.Rev{
			putRev("t", 1, 1, doc("a", number(2))), putRev("t", 1, 0, doc("a", number(1))), putRev("t", 1, 2, doc("a", number(4))), putRev("t", 1, 2, doc()), putRev("t", 1, 3, doc("a", number(3))),
			putRev("t", 1, 1<<62, doc("a", number(3))), putRev("u", 1, 2, doc("a", number(3))), putRev("none", 1, 2, doc("a", number(3))), putRev("t", 4, 2, doc("a", number(3))), putRev("t", 3, 0, doc("b", number(1))),
			dropRev("t", 1, 2), dropRev("t", 2, 0), dropRev("t", 2, 2), dropRev("u", 2, 1), dropRev("t", 3, 1), dropRev("t", 9, 1), dropRev("none", 2, 1), putRev("t", 2, 1, doc()), putRev("t", 0, 0, doc()),
		} {
			unfit(t, "otherwise: "+show(r), x, base, blocks(r))
		}
	}
}

// 16.3: of several errors the first one: the session's, then the state's, then that of the blocks; Commit's own in between.
func TestOrderOfErrors(t *testing.T) {
	l := small(t)
	wrong := api.State{Tables: []api.Table{{}}}
	none, dead, x := l.opened(t, "SELECT * FROM t"), l.opened(t, "CREATE TABLE more"), l.opened(t, "CREATE TABLE more")
	dead.Dead = true
	for _, y := range []api.Session{none, dead, x} {
		for _, blocks := range [][]api.Block{nil, l.blocks, {{}}} {
			if is, why := disturbedAsSaid(t, y, wrong, blocks); is || why != api.ErrState {
				t.Errorf("%v, error %d", is, why)
			}
			if got := commitAsSaid(t, y, wrong, blocks, ""); !same(got, made{Why: api.ErrState}) {
				t.Errorf("%s", show(got))
			}
		}
	}
	for _, y := range []api.Session{none, dead} {
		if got := commitAsSaid(t, y, l.state, []api.Block{{}}, ""); !same(got, made{Why: api.ErrState}) {
			t.Errorf("%s", show(got))
		}
		if _, why := occ.Disturbed(y, l.state, []api.Block{{}}); why != api.ErrChain {
			t.Errorf("error %d", why)
		}
		fits(t, "no Revs, or dead", y, l.state, nil)
	}
	m := l.with(t, "CREATE TABLE more")
	if got := commitAsSaid(t, x, m.state, m.blocks[3:], ""); !same(got, made{Why: api.ErrConflict}) {
		t.Errorf("ErrConflict ahead of journal.Make's: %s", show(got))
	}
	if got := commitAsSaid(t, x, m.state, nil, ""); !same(got, made{Why: api.ErrChain}) {
		t.Errorf("ErrChain ahead of it: %s", show(got))
	}
	if got := commitAsSaid(t, dead, m.state, m.blocks[3:], ""); !same(got, made{Why: api.ErrState}) {
		t.Errorf("ErrState ahead of it: %s", show(got))
	}
}
