package code_test

import (
	"runtime"
	"slices"
	"testing"

	"codicil/api"
	"codicil/code"
)

// 13.2: answers are new memory, in all their texts.
func TestNewMemory(t *testing.T) {
	m := newMaker(135)
	for i := range 2000 {
		l := m.expr(1 + i%60)
		p, _ := code.Compile(l)
		again, _ := code.Compile(l)
		apart(t, [][]api.Instr{p, again}, l)
		s, _ := code.Text(p)
		more, _ := code.Text(p)
		apart(t, []string{s, more}, p)
		q, _ := code.Read(s)
		last, _ := code.Read(s)
		apart(t, [][]api.Instr{q, last}, s, p)
		if !slices.Equal(p, again) || s != more || !slices.Equal(q, last) {
			t.Fatalf("%s, then %s", shown(p), shown(again))
		}
	}
	for _, x := range []string{"'text'", "name", "name.name", "{name: 'text', text: name}", "['text', 'text']", "name AND 'text'"} {
		l := read(t, x)
		p, _ := code.Compile(l)
		s, _ := code.Text(p)
		q, _ := code.Read(s)
		apart(t, [][]api.Instr{p, q}, l, s)
	}
}

// 13.2: nothing of what is handed in is kept.
func TestKeepsNothing(t *testing.T) {
	name, spoilName := lent("name")
	both, spoilBoth := lent("y,x")
	bytes, spoilBytes := lent("\x01\x05\x00\x04text\x01\x0b\x00\x00")
	l := steps(path(name), text(name), api.Step{Kind: api.StepStruct, N: 2, Text: both})
	p, _ := code.Compile(l)
	s, _ := code.Text(program(do(path(name))))
	q, _ := code.Read(bytes)
	spoilName()
	spoilBoth()
	spoilBytes()
	l[0], l[1], l[2] = whole(1), whole(2), whole(3)
	if !slices.Equal(p, program(do(path("name")), do(text("name")), do(structOf("y", "x")))) {
		t.Errorf("kept: %s", shown(p))
	}
	if s != "\x01\x06\x00\x04name" {
		t.Errorf("kept: %s", show(s))
	}
	if !slices.Equal(q, program(do(text("text")), do(step(api.StepIsNull)))) {
		t.Errorf("kept: %s", shown(q))
	}
}

// 13.2: what is handed in stays as it was, and room behind a list is not written to.
func TestLeavesItsArguments(t *testing.T) {
	m := newMaker(136)
	for i := range 2000 {
		l := append(make([]api.Step, 0, 200), m.expr(1+i%60)...)
		p := append(make([]api.Instr, 0, 400), m.program(2+i%200)...)
		if i%3 == 0 {
			p = m.spoil(p)
		}
		for j := len(l); j < cap(l); j++ {
			l[:cap(l)][j] = text("room")
		}
		for j := len(p); j < cap(p); j++ {
			p[:cap(p)][j] = do(text("room"))
		}
		steps, instrs := slices.Clone(l[:cap(l)]), slices.Clone(p[:cap(p)])
		code.Compile(l)
		code.Check(p)
		code.Text(p)
		if !slices.Equal(l[:cap(l)], steps) || !slices.Equal(p[:cap(p)], instrs) {
			t.Fatalf("changed: %s, %s", show(l), shown(p))
		}
	}
}

// What is done with an answer is nothing to a later one.
func TestAnswersAlike(t *testing.T) {
	l := read(t, "a AND NOT b OR 'text'")
	want, _ := code.Compile(l)
	s, _ := code.Text(want)
	want = slices.Clone(want)
	for range 3 {
		p, _ := code.Compile(l)
		q, _ := code.Read(s)
		if !slices.Equal(p, want) || !slices.Equal(q, want) {
			t.Fatalf("%s, %s", shown(p), shown(q))
		}
		for i := range p {
			p[i], q[i] = api.Instr{}, flag
		}
	}
}

// P1: nil and empty lists are alike, and a list's room is no matter.
func TestNilAndEmpty(t *testing.T) {
	for _, none := range [][]api.Instr{nil, {}, make([]api.Instr, 0, 9)} {
		wrong(t, none)
	}
	for _, none := range [][]api.Step{nil, {}, make([]api.Step, 0, 9)} {
		if p, why := code.Compile(none); len(p) != 0 || why != api.ErrSyntax {
			t.Errorf("Compile: %s, error %d", shown(p), why)
		}
	}
	right(t, append(make([]api.Instr, 0, 999), null))
}

// P4.
func TestLeavesNoGoroutine(t *testing.T) {
	before := runtime.NumGoroutine()
	for _, x := range []string{"a = 1 AND b", "[a, {x: 1}]", "a OR b"} {
		p, _ := code.Compile(read(t, x))
		s, _ := code.Text(p)
		code.Read(s)
		code.Check(append(p, flag))
	}
	if now := runtime.NumGoroutine(); now > before {
		t.Errorf("%d goroutines, %d ahead", now, before)
	}
}

// P1: programs as great as a hand may make them.
func TestGreat(t *testing.T) {
	huge := xs(1 << 20)
	for _, p := range [][]api.Instr{make([]api.Instr, 1<<16), times(1<<16, null), times(1<<16, or(1<<16)), {do(text(huge))}, {do(path(huge))}, {do(path("a" + huge))}, {do(api.Step{Kind: api.StepStruct, N: 64, Text: huge})}, {do(api.Step{Kind: api.StepStruct, N: 1 << 62})}, {null, {Op: api.OpFlag, Step: text(huge)}}, {{Op: 200, Step: text(huge), To: -1 << 63}}} {
		wrong(t, p)
	}
	unread(t, huge, api.ErrLong)
	unread(t, "\x01\x05\x00"+"\x80\x80\x40"+huge, api.ErrLong)
}
