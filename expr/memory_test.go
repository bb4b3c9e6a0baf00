package expr_test

import (
	"runtime"
	"slices"
	"testing"

	"codicil/api"
	"codicil/expr"
	"codicil/value"
)

// 11.3: answers are new memory, in all their lists and texts.
func TestNewMemory(t *testing.T) {
	m := newMaker(113)
	for i := range 3000 {
		l, r := m.right(1+i%60), m.row()
		v, _ := expr.Eval(l, r)
		again, _ := expr.Eval(l, r)
		apart(t, v, l, r, again)
		a, b, _ := expr.Parts(l)
		c, d, _ := expr.Parts(l)
		apart(t, [][]api.Step{a, b, c, d}, l)
		if !value.Same(v, again) || !slices.Equal(a, c) || !slices.Equal(b, d) {
			t.Fatalf("%s of %s: %s, then %s", shown(l), show(r), show(v), show(again))
		}
	}
	r := doc("a", all(word("text"), doc("name", blob("bytes"))))
	for _, s := range []string{"a", "a.0", "a.1", "a.1.name", "'text'", "[a, a]", "{x: a, y: [a]}", "{name: a.0, text: a.0}", "[a.1, {a: 'text'}]"} {
		l := read(t, s)
		v, why := expr.Eval(l, r)
		again, _ := expr.Eval(l, r)
		if why != api.OK {
			t.Fatalf("%s: error %d", s, why)
		}
		apart(t, v, l, r, again)
	}
	l := steps(text("text"))
	v, _ := expr.Literal(l)
	again, _ := expr.Literal(l)
	apart(t, v, l, again)
}

// 11.3: nothing of what is handed in is kept.
func TestKeepsNothing(t *testing.T) {
	name, spoilName := lent("name")
	words, spoilWords := lent("words")
	both, spoilBoth := lent("y,x")
	r := doc(name, all(word(words)))
	l := steps(path(name), text(words), api.Step{Kind: api.StepStruct, N: 2, Text: both})
	v, why := expr.Eval(l, r)
	a, b, is := expr.Parts(l)
	c, _ := expr.Literal(l[1:2])
	spoilName()
	spoilWords()
	spoilBoth()
	l[0], l[1], l[2] = whole(1), whole(2), whole(3)
	r.Fields[0].Value.List[0] = number(9)
	if want := doc("x", word("words"), "y", all(word("words"))); why != api.OK || !value.Same(v, want) {
		t.Errorf("kept: %s, error %d", show(v), why)
	}
	if !is || !slices.Equal(a, steps(path("name"))) || !slices.Equal(b, steps(text("words"))) || !value.Same(c, word("words")) {
		t.Errorf("kept: %s, %s, %s", show(a), show(b), show(c))
	}
}

// 11.3: what is handed in stays as it was, and room behind a list is not written to.
func TestLeavesItsArguments(t *testing.T) {
	m := newMaker(118)
	for i := range 3000 {
		l, r := m.right(1+i%60), m.row()
		if i%5 == 0 {
			l, r = m.junk(), m.wrong()
		}
		l = append(make([]api.Step, 0, len(l)+5), l...)
		for j := range l[len(l):cap(l)] {
			l[:cap(l)][len(l)+j] = text("room")
		}
		r.Fields = append(make([]api.Field, 0, len(r.Fields)+2), r.Fields...)
		ahead, before := slices.Clone(l[:cap(l)]), twin(r)
		expr.Eval(l, r)
		expr.Holds(l, r)
		expr.Literal(l)
		expr.Parts(l)
		room := api.Value{Kind: api.KindStruct, Fields: r.Fields[len(r.Fields):cap(r.Fields)]}
		if !slices.Equal(l[:cap(l)], ahead) || !value.Same(r, before) || !value.Same(room, api.Value{Kind: api.KindStruct, Fields: make([]api.Field, len(room.Fields))}) {
			t.Fatalf("changed: %s, %s", show(l), show(r))
		}
	}
}

// What is done with an answer is nothing to a later one.
func TestAnswersAlike(t *testing.T) {
	l, r := read(t, "[a, {y: a, x: 'text'}]"), doc("a", all(number(1)))
	want := all(all(number(1)), doc("x", word("text"), "y", all(number(1))))
	for range 3 {
		v, _ := expr.Eval(l, r)
		if !value.Same(v, want) {
			t.Fatalf("%s", show(v))
		}
		v.List[0].List[0] = number(9)
		v.List[1].Fields[0] = api.Field{}
		v.List[0] = null()
		a, b, _ := expr.Parts(l)
		if len(a) != 1 || len(b) != 3 {
			t.Fatalf("%s, %s", show(a), show(b))
		}
		a[0], b[0], b[2] = whole(1), whole(2), whole(3)
	}
}

// P3: nil and empty lists are alike, and a list's room is no matter.
func TestNilAndEmpty(t *testing.T) {
	l := steps(path("a"), path("b"), step(api.StepEqual))
	some := api.Value{Kind: api.KindStruct, List: []api.Value{}, Fields: []api.Field{{Name: "a", Value: api.Value{Kind: api.KindList, List: []api.Value{}, Fields: []api.Field{}}}, {Name: "b", Value: all()}}}
	comes(t, l, some, flag(true))
	comes(t, l[:1], some, all())
	for _, none := range [][]api.Step{nil, {}, make([]api.Step, 0, 9)} {
		fails(t, none, some, api.ErrSyntax)
		if is, why := expr.Holds(none, some); !is || why != api.OK {
			t.Errorf("Holds of nothing: %v, error %d", is, why)
		}
	}
}

// P4.
func TestLeavesNoGoroutine(t *testing.T) {
	before := runtime.NumGoroutine()
	for _, s := range []string{"a = 1 AND b", "[a, {x: 1}]", "-'x'", "a OR b"} {
		expr.Eval(read(t, s), row())
		expr.Holds(read(t, s), row())
		expr.Literal(read(t, s))
		expr.Parts(read(t, s))
	}
	if now := runtime.NumGoroutine(); now > before {
		t.Errorf("%d goroutines, %d ahead", now, before)
	}
}

// P1: steps and rows as great as a hand may make them.
func TestGreat(t *testing.T) {
	long := xs(1 << 20)
	for _, l := range [][]api.Step{make([]api.Step, 1<<16), make1(1<<16, step(api.StepTrue)), {text(long)}, {path(long)}, {path("a" + long)}, {{Kind: api.StepStruct, N: 64, Text: long}}, {{Kind: api.StepStruct, N: 1 << 62}}, {list(1 << 40)}, {{Kind: api.StepList, N: -1 << 63}}} {
		fails(t, l, row(), api.ErrSyntax)
		isLiteral(t, l, null(), false)
		parted(t, l, nil, nil, false)
		if is, why := expr.Holds(l, row()); is || why != api.ErrSyntax {
			t.Errorf("Holds: %v, error %d", is, why)
		}
	}
	fails(t, read(t, "a"), nested(1<<16, null()), api.ErrDepth)
	fails(t, read(t, "a"), word(long), api.ErrLong)
	fails(t, read(t, "a"), all(make([]api.Value, 1<<16)...), api.ErrMany)
}
