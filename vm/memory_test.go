package vm_test

import (
	"runtime"
	"slices"
	"testing"

	"codicil/api"
	"codicil/code"
	"codicil/value"
	"codicil/vm"
)

// 14.3: answers are new memory, in all their lists and texts.
func TestNewMemory(t *testing.T) {
	m := newMaker(147)
	for i := range 3000 {
		p, r := m.program(2+i%40), m.row()
		if i%2 == 0 {
			p, _ = code.Compile(m.expr(1 + i%60))
		}
		v, _, _ := vm.Run(p, r, 99)
		again, _, _ := vm.Run(p, r, 99)
		apart(t, v, p, r, again)
		if !value.Same(v, again) {
			t.Fatalf("%s of %s: %s, then %s", shown(p), show(r), show(v), show(again))
		}
	}
	r := doc("a", all(word("text"), doc("name", blob("bytes"))))
	for _, s := range []string{"a", "a.0", "a.1", "a.1.name", "'text'", "[a, a]", "{x: a, y: [a]}", "{name: a.0, text: a.0}", "[a.1, {a: 'text'}]"} {
		p := compiled(t, s)
		v, _, why := vm.Run(p, r, 99)
		again, _, _ := vm.Run(p, r, 99)
		if why != api.OK {
			t.Fatalf("%s: error %d", s, why)
		}
		apart(t, v, p, r, again)
	}
	l := []api.Value{r, r}
	for _, s := range steps(list(2), structOf("name", "text"), step(api.StepEqual)) {
		v, _ := vm.Step(s, r, l)
		again, _ := vm.Step(s, r, l)
		apart(t, v, s, r, l, again)
	}
	for _, s := range steps(path("a"), path("a.0"), path("a.1.name"), text("text")) {
		v, _ := vm.Step(s, r, nil)
		again, _ := vm.Step(s, r, nil)
		apart(t, v, s, r, again)
	}
}

// 14.3: nothing of what is handed in is kept.
func TestKeepsNothing(t *testing.T) {
	name, spoilName := lent("name")
	words, spoilWords := lent("words")
	both, spoilBoth := lent("y,x")
	r := doc(name, all(word(words)))
	s := api.Step{Kind: api.StepStruct, N: 2, Text: both}
	p := program(do(path(name)), do(text(words)), do(s))
	l := []api.Value{all(word(words)), doc(name, blob(words))}
	v, _, why := vm.Run(p, r, 9)
	w, no := vm.Step(s, r, l)
	spoilName()
	spoilWords()
	spoilBoth()
	p[0], p[1], p[2] = do(whole(1)), do(whole(2)), do(whole(3))
	r.Fields[0].Value.List[0] = number(9)
	l[0].List[0] = number(9)
	l[1] = null()
	if want := doc("x", word("words"), "y", all(word("words"))); why != api.OK || !value.Same(v, want) {
		t.Errorf("kept: %s, error %d", show(v), why)
	}
	if want := doc("x", doc("name", blob("words")), "y", all(word("words"))); no != api.OK || !value.Same(w, want) {
		t.Errorf("kept: %s, error %d", show(w), no)
	}
}

// 14.3: what is handed in stays as it was, and room behind a list is not written to.
func TestLeavesItsArguments(t *testing.T) {
	m := newMaker(148)
	for i := range 3000 {
		p, r := m.program(2+i%40), m.row()
		if i%5 == 0 {
			r = m.wrong()
		}
		p = append(make([]api.Instr, 0, len(p)+5), p...)
		for j := len(p); j < cap(p); j++ {
			p[:cap(p)][j] = do(text("room"))
		}
		r.Fields = append(make([]api.Field, 0, len(r.Fields)+2), r.Fields...)
		l := append(make([]api.Value, 0, 9), m.value(4), m.value(6))
		ahead, before, values := slices.Clone(p[:cap(p)]), twin(r), twin(all(l[:9]...))
		vm.Run(p, r, 60)
		vm.Holds(p, r, 60)
		for _, s := range append(pairing[:9:9], list(2), structOf("y", "x")) {
			vm.Step(s, r, l)
		}
		room := api.Value{Kind: api.KindStruct, Fields: r.Fields[len(r.Fields):cap(r.Fields)]}
		if !slices.Equal(p[:cap(p)], ahead) || !value.Same(r, before) || !value.Same(all(l[:9]...), values) || !value.Same(room, api.Value{Kind: api.KindStruct, Fields: make([]api.Field, len(room.Fields))}) {
			t.Fatalf("changed: %s, %s, %s", shown(p), show(r), show(l))
		}
	}
}

// What is done with an answer is nothing to a later one.
func TestAnswersAlike(t *testing.T) {
	p, r := compiled(t, "[a, {y: a, x: 'text'}]"), doc("a", all(number(1)))
	want := all(all(number(1)), doc("x", word("text"), "y", all(number(1))))
	for range 3 {
		v, _, _ := vm.Run(p, r, 9)
		if !value.Same(v, want) {
			t.Fatalf("%s", show(v))
		}
		v.List[0].List[0] = number(9)
		v.List[1].Fields[0] = api.Field{}
		v.List[0] = null()
	}
}

// P1: nil and empty lists are alike.
func TestNilAndEmpty(t *testing.T) {
	some := api.Value{Kind: api.KindStruct, List: []api.Value{}, Fields: []api.Field{{Name: "a", Value: api.Value{Kind: api.KindList, List: []api.Value{}, Fields: []api.Field{}}}, {Name: "b", Value: all()}}}
	ends(t, compiled(t, "a = b"), some, 3, flag(true), 0, api.OK)
	ends(t, compiled(t, "a"), some, 3, all(), 2, api.OK)
	made(t, step(api.StepEqual), some, []api.Value{some.Fields[0].Value, some.Fields[1].Value}, flag(true))
	made(t, list(1), some, []api.Value{some.Fields[0].Value}, all(all()))
	made(t, list(0), some, []api.Value{}, all())
	for _, none := range [][]api.Instr{nil, {}, make([]api.Instr, 0, 9)} {
		refused(t, none, some, 3, api.ErrForm)
	}
}

// P4.
func TestLeavesNoGoroutine(t *testing.T) {
	before := runtime.NumGoroutine()
	for _, s := range []string{"a = 1 AND b", "[a, {x: 1}]", "-'x'", "a OR b"} {
		vm.Run(compiled(t, s), row(), 9)
		vm.Holds(compiled(t, s), row(), 1)
		vm.Step(step(api.StepNot), row(), []api.Value{flag(true)})
	}
	if now := runtime.NumGoroutine(); now > before {
		t.Errorf("%d goroutines, %d ahead", now, before)
	}
}

// P1: programs, rows, steps and values as great as a hand may make them.
func TestGreat(t *testing.T) {
	huge := xs(1 << 20)
	fine := compiled(t, "a")
	refused(t, make([]api.Instr, 1<<16), row(), 9, api.ErrForm)
	refused(t, times(1<<16, do(step(api.StepNull))), row(), 9, api.ErrForm)
	refused(t, fine, nested(1<<16, null()), 9, api.ErrDepth)
	refused(t, fine, word(huge), 9, api.ErrLong)
	refused(t, fine, all(make([]api.Value, 1<<16)...), 9, api.ErrMany)
	unmade(t, text(huge), row(), nil, api.ErrSyntax)
	unmade(t, list(1<<40), row(), nil, api.ErrSyntax)
	unmade(t, list(64), row(), make([]api.Value, 1<<16), api.ErrSyntax)
	unmade(t, step(api.StepNot), row(), []api.Value{nested(1<<16, null())}, api.ErrDepth)
	unmade(t, step(api.StepEqual), row(), []api.Value{word(huge), word(huge)}, api.ErrLong)
}
