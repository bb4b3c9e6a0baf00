package code

import (
	"codicil/api"
	"codicil/parse"
)

// bare is an instruction with nothing but what its Op has.
func bare(in api.Instr) api.Instr {
	switch in.Op {
	case api.OpStep:
		return api.Instr{Op: in.Op, Step: in.Step}
	case api.OpAnd, api.OpOr:
		return api.Instr{Op: in.Op, To: in.To}
	}
	return api.Instr{Op: in.Op}
}

// rightInstrs tells whether each instruction of a program is one.
func rightInstrs(p []api.Instr) bool {
	for at, in := range p {
		if in != bare(in) || !rightOp(in, at, len(p)) {
			return false
		}
	}
	return true
}

// rightOp tells whether there is such an Op, and whether what it has is right at its place in a program of so many.
func rightOp(in api.Instr, at, many int) bool {
	switch in.Op {
	case api.OpStep:
		_, is := parse.Takes(in.Step)
		return is && in.Step.Kind != api.StepAnd && in.Step.Kind != api.StepOr
	case api.OpAnd, api.OpOr:
		return in.To > at && in.To <= many
	}
	return in.Op == api.OpFlag || in.Op == api.OpJoin
}

// heights are how many values there are at the places that are come to so far.
type heights map[int]int

// come comes to a place with so many values, and tells whether it has no other height.
func (h heights) come(place, height int) bool {
	if other, known := h[place]; known {
		return other == height
	}
	h[place] = height
	return true
}

// rightHeights tells whether each place of a program of right instructions has one height. As each of these may go on to the next place and none goes back, all places are come to, and all ways to one are known when it is its turn.
func rightHeights(p []api.Instr) bool {
	h := heights{}
	h.come(0, 0)
	for at, in := range p {
		need, left := change(in)
		if h[at] < need || jumps(in) && !h.come(in.To, h[at]) || !h.come(at+1, h[at]-need+left) {
			return false
		}
	}
	return h[len(p)] == 1
}

// change is how many values a right instruction needs, and how many stand in their place where it goes on.
func change(in api.Instr) (need, left int) {
	switch in.Op {
	case api.OpAnd:
		return 1, 0
	case api.OpFlag, api.OpOr:
		return 1, 1
	case api.OpJoin:
		return 2, 1
	}
	many, _ := parse.Takes(in.Step)
	return many, 1
}

func jumps(in api.Instr) bool { return in.Op == api.OpAnd || in.Op == api.OpOr }
