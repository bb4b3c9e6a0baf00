package front_test

import (
	"runtime"
	"strings"
	"testing"

	"codicil/api"
	"codicil/front"
)

// tale is a script that has lines of each kind.
const tale = "begin\nexec 1 CREATE TABLE t\nexec 1 INSERT INTO t {a: 'words'}\nexec 1 INSERT INTO t {a: 'words'}\nexec 1 SELECT * FROM t\ncommit 1\ntip\nprove 1 1\nfuse 1\nbegin\nexec 2 x\nexec 2  \nexec 2 \nexec 2 DELETE FROM t\nabort 7\ncommit 2\nbegin\ncrash 9\n"

// 20.3: answers are new memory, in all their lists and texts.
func TestNewMemory(t *testing.T) {
	for _, script := range []string{tale, "exec 1 x\n", "exec 1 xx\nexec 1 xx\n", "none\n", ""} {
		l, why, at := front.Parse(script)
		again, _, _ := front.Parse(script)
		apart(t, l, script, again)
		if !same(l, again) {
			t.Errorf("Parse: %s, then %s, error %d, line %d", show(l), show(again), why, at)
		}
		s, _ := front.Print(l)
		twice, _ := front.Print(l)
		apart(t, s, l, script, twice)
		a, _, _ := front.Run(1000, script)
		b, _, _ := front.Run(1000, script)
		apart(t, a, script, b)
		if a != b {
			t.Errorf("Run: %s, then %s", show(a), show(b))
		}
	}
	text := xs(900)
	l := []api.Order{{Kind: api.OrderExec, Text: text}, {Kind: api.OrderExec, Text: text}}
	s, _ := front.Print(l)
	apart(t, s, l)
	for _, v := range []api.Value{null(), flag(true), number(7), number(77), word("text"), blob("text"), all(), doc(), doc("name", all(word("text"), null())), {Kind: 99}} {
		s := front.Show(v)
		apart(t, s, v, front.Show(v))
	}
}

// 20.3: nothing of what is handed in is kept.
func TestKeepsNothing(t *testing.T) {
	want, _, _ := front.Parse(tale)
	mine, spoil := lent(tale)
	got, why, _ := front.Parse(mine)
	spoil()
	if !same(got, want) || why != api.OK {
		t.Errorf("Parse: %s, not %s", show(got), show(want))
	}
	l, spoil := lent(want)
	text, why := front.Print(l)
	spoil()
	if text != tale || why != api.OK {
		t.Errorf("Print: %s", show(text))
	}
	ran, _, _ := front.Run(1000, tale)
	mine, spoil = lent(tale)
	again, _, _ := front.Run(1000, mine)
	spoil()
	if ran != again {
		t.Errorf("Run: %s, not %s", show(again), show(ran))
	}
	v := doc("name", all(word("text"), blob("bytes")))
	lentValue, spoil := lent(v)
	shown := front.Show(lentValue)
	spoil()
	if shown != "{'name': ['text', x'bytes']}" {
		t.Errorf("Show: %s", shown)
	}
}

// 20.3: what is handed in is not changed, the room behind lists neither.
func TestLeavesRoom(t *testing.T) {
	l, _, _ := front.Parse(tale)
	n := len(l)
	wide := append(make([]api.Order, 0, n+5), l...)
	front.Print(wide)
	if !same(wide, l) || !same(wide[:n+5][n:], make([]api.Order, 5)) {
		t.Errorf("Print wrote to %s", show(wide[:n+5]))
	}
	v := all(word("a"), word("b"))
	v.List = append(make([]api.Value, 0, 7), v.List...)
	front.Show(v)
	if !same(v, all(word("a"), word("b"))) || !same(v.List[:7][2:], make([]api.Value, 5)) {
		t.Errorf("Show wrote to %s", show(v))
	}
}

// P3: nil and empty lists are alike, and no answer hangs on a capacity.
func TestEmptyLists(t *testing.T) {
	for _, l := range [][]api.Order{nil, {}, make([]api.Order, 0, 9)} {
		if s, why := front.Print(l); s != "" || why != api.OK {
			t.Errorf("Print: %q, error %d", s, why)
		}
	}
	for _, v := range []api.Value{all(), {Kind: api.KindList, List: []api.Value{}}, {Kind: api.KindList, List: make([]api.Value, 0, 3)}} {
		if s := front.Show(v); s != "[]" {
			t.Errorf("Show: %s", s)
		}
	}
	for _, v := range []api.Value{doc(), {Kind: api.KindStruct, Fields: []api.Field{}}} {
		if s := front.Show(v); s != "{}" {
			t.Errorf("Show: %s", s)
		}
	}
}

// P1: any bytes.
func TestAnyBytes(t *testing.T) {
	m := newMaker(1)
	for range 3000 {
		b := make([]byte, m.Intn(40))
		m.Read(b)
		isRead(t, string(b))
		isRun(t, m.Intn(100), string(b))
	}
	for _, s := range []string{strings.Repeat(" ", api.MaxScript), strings.Repeat("\x00", api.MaxScript), "exec " + strings.Repeat("1", 60000) + " x\n", "exec 1 " + xs(60000) + "\n", "commit " + strings.Repeat("0", 65000) + "\n"} {
		isRead(t, s)
	}
}

// P4: no goroutine is left.
func TestNoGoroutineLeft(t *testing.T) {
	ahead := runtime.NumGoroutine()
	front.Run(1000, tale)
	l, _, _ := front.Parse(tale)
	front.Print(l)
	front.Show(all(word("x")))
	if now := runtime.NumGoroutine(); now > ahead {
		t.Errorf("%d goroutines, ahead of it %d", now, ahead)
	}
}
