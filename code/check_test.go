package code_test

import (
	"math"
	"slices"
	"testing"

	"codicil/api"
	"codicil/code"
)

// 13.1: programs of no instruction, of 1, of 2 MaxExpr, of one more.
func TestCheckSizes(t *testing.T) {
	wrong(t, nil)
	wrong(t, []api.Instr{})
	for _, s := range leaves {
		right(t, program(do(s)))
	}
	for _, in := range program(not, same, flag, join, and(1), or(1), do(list(1)), api.Instr{}) {
		wrong(t, program(in))
	}
	for _, in := range program(not, flag) {
		right(t, append(program(null), times(254, in)...))
		right(t, append(program(null), times(255, in)...))
	}
	right(t, append(program(null), times(254, or(255))...))
	right(t, append(program(null), times(255, or(256))...))
	for _, in := range program(not, flag, or(257), or(256)) {
		wrong(t, append(program(null), times(256, in)...))
		wrong(t, append(program(null), times(1000, in)...))
	}
	// As high as may be: 128 values, and one step for each but one that puts two together.
	right(t, slices.Concat(times(128, null), times(127, join)))
	right(t, slices.Concat(times(128, null), times(127, same), program(not)))
	wrong(t, slices.Concat(times(128, null), times(127, same), program(not, not)))
	wrong(t, slices.Concat(times(128, null), times(128, same)))
	right(t, slices.Concat(times(64, null), program(do(list(64)))))
	right(t, slices.Concat(times(191, null), program(do(list(64)), do(list(64)), do(list(64))), times(1, same), program(not)))
}

// 13.1: an Op that is none, wherever it stands and whatever it has.
func TestCheckOps(t *testing.T) {
	for _, op := range []api.Op{api.OpNone, api.OpCount, 7, 99, 255} {
		for _, in := range program(api.Instr{Op: op}, api.Instr{Op: op, Step: step(api.StepNull)}, api.Instr{Op: op, To: 1}, api.Instr{Op: op, To: 2}) {
			wrong(t, program(in))
			wrong(t, program(in, null))
			wrong(t, program(null, in))
			wrong(t, program(null, in, not))
		}
	}
}

// 13.1: an OpStep whose step is not right, is AND or OR, or whose To is not 0.
func TestCheckSteps(t *testing.T) {
	for _, s := range append(wrongSteps(), step(api.StepAnd), step(api.StepOr)) {
		for n := range 4 {
			wrong(t, append(times(n, null), do(s)))
			wrong(t, append(times(n, null), do(s), do(list(n))))
		}
	}
	wrong(t, program(null, null, do(step(api.StepAnd)), flag))
	for _, to := range []int{1, 2, 3, 4, -1, 256, math.MinInt, math.MaxInt} {
		for _, s := range append(append(leaves[:len(leaves):len(leaves)], unary...), pairing[:9]...) {
			in := do(s)
			right(t, slices.Concat(times(takes(s), null), program(in, flag)))
			in.To = to
			wrong(t, slices.Concat(times(takes(s), null), program(in, flag)))
		}
	}
}

// takes is how many values a step of one of the lists above takes.
func takes(s api.Step) int {
	switch {
	case slices.Contains(unary, s):
		return 1
	case slices.Contains(pairing, s):
		return 2
	}
	return 0
}

// 13.1: the other Ops with a step that is not zero, in each field.
func TestCheckBare(t *testing.T) {
	for _, p := range [][]api.Instr{{null, and(3), null}, {null, or(3), not}, {null, flag, not}, {null, null, join}} {
		right(t, p)
		for at, in := range p {
			if in.Op == api.OpStep {
				continue
			}
			for _, s := range steps(step(api.StepNull), step(api.StepNot), step(255), api.Step{Text: "x"}, api.Step{N: 1}, api.Step{N: -1}, whole(1), text("x")) {
				q := slices.Clone(p)
				q[at].Step = s
				wrong(t, q)
			}
		}
	}
}

// 13.1: where an instruction may go to.
func TestCheckTo(t *testing.T) {
	// Here each place from 1 on has the height 1.
	for at := 1; at < 5; at++ {
		for _, to := range []int{math.MinInt, -1, 0, 1, 2, 3, 4, 5, 6, 7, 256, 257, math.MaxInt} {
			p := slices.Concat(program(null), times(4, not))
			p[at] = or(to)
			if to > at && to <= 5 {
				right(t, p)
			} else {
				wrong(t, p)
			}
			for _, in := range program(not, flag) {
				in.To = to
				p[at] = in
				if to == 0 {
					right(t, p)
				} else {
					wrong(t, p)
				}
			}
		}
	}
	// Here the place behind the AND has the height 0, all others from 1 on have 1.
	for _, to := range []int{math.MinInt, -1, 0, 1, 2, 3, 4, 5, 6, math.MaxInt} {
		p := program(null, flag, and(to), null, not)
		if to == 4 || to == 5 {
			right(t, p)
		} else {
			wrong(t, p)
		}
		q := program(null, null, join, not)
		q[2].To = to
		if to == 0 {
			right(t, q)
		} else {
			wrong(t, q)
		}
	}
	right(t, program(null, or(2)))
	wrong(t, program(null, and(2)))
	right(t, program(null, and(3), null))
	wrong(t, program(null, and(3), null, not, not, and(3)))
}

// 13.1: places with two heights, in the end and ahead of it.
func TestCheckTwoHeights(t *testing.T) {
	for _, p := range [][]api.Instr{
		{null, or(3), null}, {null, or(3), null, join}, {null, or(3), null, same}, {null, and(2), null}, {null, and(2), null, join}, {null, null, and(4), same, not}, {null, null, or(4), join, not}, {null, null, or(3), same, or(4)},
		{null, and(4), null, null, same}, {null, and(4), null, null, join}, {null, and(6), null, null, null, join, join}, {null, or(3), do(list(0)), same}, {null, or(5), null, null, not, same}, {null, null, or(4), join, null, same},
		{null, or(4), null, or(3), same}, {null, and(5), null, or(5), null, join, not, null, same},
	} {
		wrong(t, p)
	}
	// Several ways to one place with one height.
	right(t, program(null, or(4), or(4), or(4), not))
	right(t, program(null, and(6), null, and(6), null, not, not))
	right(t, program(null, null, or(3), or(4), or(5), or(6), join))
	right(t, program(null, and(9), null, or(9), null, join, and(9), null, flag, not))
	wrong(t, program(null, and(9), null, or(8), null, join, and(9), null, null, join))
}

// 13.1: jumps of one instruction into the middle of another one's part.
func TestCheckMiddle(t *testing.T) {
	right(t, program(null, or(4), not, not, not))
	right(t, program(null, or(3), or(5), not, not, flag))
	// Into the second part of an OR, where there is one more than ahead of it.
	wrong(t, program(null, or(5), null, or(7), null, not, join, join))
	wrong(t, program(null, and(4), null, and(7), not, null, flag))
	// Into a list's parts.
	wrong(t, program(null, or(3), null, not, do(list(2))))
	right(t, program(null, null, or(4), not, not, do(list(2))))
	// From one part of a list to another one's end, over the parts between.
	wrong(t, program(null, or(4), null, null, do(list(3))))
	right(t, program(null, null, null, and(5), null, do(list(3))))
	// Two that cross each other.
	right(t, program(null, or(4), or(6), not, not, not, flag))
	right(t, program(null, and(5), null, or(6), not, not))
}

// 13.1: heights that are too low for what is needed.
func TestCheckTooLow(t *testing.T) {
	needs := map[int][]api.Instr{1: {not, do(step(api.StepNeg)), do(step(api.StepIsNull)), flag, do(list(1)), do(structOf("x"))}, 2: {same, join, do(list(2)), do(structOf("x", "y"))}, 3: {do(list(3))}, 64: {do(list(64)), do(structOf(names(64, 4)...))}}
	for need, l := range needs {
		for _, in := range l {
			for n := range need {
				wrong(t, append(times(n, null), in))
				wrong(t, append(times(n, null), in, null, same))
				wrong(t, append(times(n, null), append(program(in), times(need, null)...)...))
			}
			right(t, append(times(need, null), in))
		}
	}
	for _, in := range program(and(2), or(2), and(1), or(1)) {
		wrong(t, program(in, null))
	}
	// There would be enough in the end.
	wrong(t, program(null, and(3), not))
	wrong(t, program(null, and(3), flag))
	wrong(t, program(null, and(4), or(4), null))
	wrong(t, program(null, and(4), and(4), null))
	wrong(t, program(null, and(5), null, same, not))
	wrong(t, program(null, null, and(4), join))
	wrong(t, program(null, null, and(5), join, null))
	wrong(t, program(null, join, null))
}

// 13.1: heights other than 1 in the end.
func TestCheckEnd(t *testing.T) {
	wrong(t, program(null, and(2)))
	for n := 2; n <= 256; n++ {
		wrong(t, times(n, null))
	}
	wrong(t, program(null, null, not))
	wrong(t, program(null, null, flag))
	wrong(t, program(null, null, or(3)))
	wrong(t, program(null, null, or(4), not))
	wrong(t, program(null, null, null, join))
	wrong(t, program(null, null, and(4), null))
	wrong(t, program(do(list(0)), do(structOf())))
	right(t, program(null, null, and(4), null, join))
}

// small are instructions that a small program may have.
func small(size int) []api.Instr {
	out := program(null, not, same, flag, join, api.Instr{})
	for to := range size + 2 {
		out = append(out, and(to), or(to))
	}
	return out
}

// 13.1: all small programs.
func TestCheckAllSmall(t *testing.T) {
	rights := 0
	for size := 1; size <= 4; size++ {
		l := small(size)
		p := make([]api.Instr, size)
		var fill func(at int)
		fill = func(at int) {
			if at < size {
				for _, in := range l {
					p[at] = in
					fill(at + 1)
				}
				return
			}
			want := api.ErrForm
			if saidRight(p) {
				want = api.OK
				rights++
			}
			if why := code.Check(p); why != want {
				t.Fatalf("Check(%s): error %d, not %d", shown(p), why, want)
			}
		}
		fill(0)
	}
	if rights < 100 {
		t.Errorf("%d right ones", rights)
	}
}

// 13.1: any programs that are right, and any that may not be.
func TestCheckAny(t *testing.T) {
	m := newMaker(132)
	met := map[bool]int{}
	for i := range 12000 {
		p := m.program(2 + i%250)
		right(t, p)
		if i%2 == 0 {
			p, _ = code.Compile(m.expr(1 + i%60))
		}
		p = m.spoil(p)
		is := saidRight(p)
		met[is]++
		if is {
			right(t, p)
		} else {
			wrong(t, p)
		}
		if t.Failed() {
			return
		}
	}
	if met[true] < 1000 || met[false] < 1000 {
		t.Errorf("met %v", met)
	}
}
