package occ_test

import (
	"math"
	"testing"

	"codicil/api"
	"codicil/occ"
)

// wrongs are sessions that are not right, in each of their parts, all else being right.
func wrongs(t *testing.T) map[string]api.Session {
	t.Helper()
	out := map[string]api.Session{}
	for what, with := range map[string]func(x *api.Session){
		"a wrong Base":        func(x *api.Session) { x.View.Base.Tables[0].Name = "" },
		"a Base too far":      func(x *api.Session) { x.View.Base.Seq = 1 << 62 },
		"a Rev that can't be": func(x *api.Session) { x.View.Revs = append(x.View.Revs, tableRev("t")) },
		"a Rev that is none":  func(x *api.Session) { x.View.Revs[0] = api.Rev{} },
		"many Revs": func(x *api.Session) {
			x.View.Revs = many(65, func(i int) api.Rev { return putRev("t", uint64(7+i), 0, doc()) })
		},
		"many Statements":      func(x *api.Session) { x.Statements = many(65, name) },
		"very many Statements": func(x *api.Session) { x.Statements = make([]string, 1<<16) },
		"a long Statement":     func(x *api.Session) { x.Statements[1] = xs(1025) },
		"no UTF-8":             func(x *api.Session) { x.Statements[1] = "\xff" },
		"the last one no UTF":  func(x *api.Session) { x.Statements = append(x.Statements, "a\xc3") },
		"long and no UTF-8":    func(x *api.Session) { x.Statements[0] = xs(1024) + "\xff" },
		"many Reads":           func(x *api.Session) { x.Reads = make([]api.Read, 65) },
		"very many Reads":      func(x *api.Session) { x.Reads = make([]api.Read, 1<<16) },
	} {
		x := small(t).opened(t, "INSERT INTO t {a: 7}", "SELECT * FROM t WHERE a = 1")
		with(&x)
		out[what] = x
		x.Dead = true
		out[what+", dead"] = x
	}
	return out
}

// rights are sessions that are right, whatever a statement would have made of them.
func rights(t *testing.T) map[string]api.Session {
	t.Helper()
	out := map[string]api.Session{"nothing": {}, "a great Id": {Id: math.MaxInt}, "an Id below 0": {Id: math.MinInt}, "dead": {Dead: true}}
	for what, with := range map[string]func(x *api.Session){
		"as it is":            func(x *api.Session) {},
		"MaxParts Statements": func(x *api.Session) { x.Statements = many(64, func(int) string { return xs(1024) }) },
		"no statements":       func(x *api.Session) { x.Statements = []string{"", "no statement", "é", "\x00"} },
		"MaxParts Reads":      func(x *api.Session) { x.Reads = make([]api.Read, 64) },
		"a Read of anything": func(x *api.Session) {
			x.Reads = []api.Read{{Table: "\xff", All: true, Field: "", Key: api.Value{Kind: 99, S: "x"}}}
		},
		"a Read that is great": func(x *api.Session) { x.Reads = []api.Read{{Key: nested(60000, null())}} },
		"MaxRevs Revs": func(x *api.Session) {
			x.View.Revs = many(64, func(i int) api.Rev { return putRev("t", uint64(7+i), 0, doc()) })
		},
		"Revs without a trace": func(x *api.Session) { x.Statements, x.Reads = nil, nil },
	} {
		x := small(t).opened(t, "INSERT INTO t {a: 7}", "SELECT * FROM t WHERE a = 1")
		with(&x)
		out[what] = x
	}
	return out
}

// 16.1: which sessions are right.
func TestCheck(t *testing.T) {
	for what, x := range rights(t) {
		if why := occ.Check(x); why != api.OK {
			t.Errorf("%s: error %d", what, why)
		}
	}
	for what, x := range wrongs(t) {
		if why := occ.Check(x); why != api.ErrState {
			t.Errorf("%s: error %d", what, why)
		}
	}
}

// 16.2, 16.3: of a session that is not right nothing else is told, whatever else is wrong.
func TestWrongSessions(t *testing.T) {
	l := small(t)
	for what, x := range wrongs(t) {
		for _, text := range []string{"SELECT * FROM t", "no statement", "INSERT INTO t 5", xs(2000)} {
			for _, fuel := range []int{-1, 0, 99, api.MaxFuel + 1} {
				if got := execAsSaid(t, x, text, fuel); !same(got, told{Why: api.ErrState}) {
					t.Errorf("%s: Exec: %s", what, show(got))
				}
			}
		}
		for _, s := range []api.State{l.state, {Seq: 1 << 63}, {}} {
			for _, blocks := range [][]api.Block{nil, l.blocks, l.blocks[2:], {{}}} {
				if is, why := disturbedAsSaid(t, x, s, blocks); is || why != api.ErrState {
					t.Errorf("%s: Disturbed: %v, error %d", what, is, why)
				}
				if got := commitAsSaid(t, x, s, blocks, nought); !same(got, made{Why: api.ErrState}) {
					t.Errorf("%s: Commit: %s", what, show(got))
				}
			}
		}
	}
}

// 16.1: Begin is a session of the Id and the state, and nothing else.
func TestBegin(t *testing.T) {
	l := small(t)
	for _, id := range []int{0, 1, 7, -1, math.MaxInt, math.MinInt} {
		for _, s := range []api.State{{}, l.state, {Seq: 1<<62 - 1}, {Last: 1 << 62}} {
			x, why := occ.Begin(id, s)
			if why != api.OK || !same(x, api.Session{Id: id, View: api.View{Base: s}}) {
				t.Errorf("Begin(%d, %s): %s, error %d", id, show(s), show(x), why)
			}
			if why := occ.Check(x); why != api.OK {
				t.Errorf("Check of it: error %d", why)
			}
		}
	}
	wrong := twin(l.state)
	wrong.Tables[0].Docs[0].Versions = nil
	for _, s := range []api.State{{Seq: 1 << 62}, {Seq: 1<<62 + 1}, {Seq: math.MaxUint64}, {Last: 1<<62 + 1}, {Tables: []api.Table{{}}}, wrong} {
		if x, why := occ.Begin(3, s); why != api.ErrState || !same(x, api.Session{}) {
			t.Errorf("Begin(%s): %s, error %d", show(s), show(x), why)
		}
	}
}
