package code_test

import (
	"encoding/binary"
	"strings"

	"codicil/api"
	"codicil/parse"
)

// What follows are the chapter's words to the letter, by other means than the package's.

// pieces are the expressions that the last step of a right one takes, found from the end.
func pieces(l []api.Step) [][]api.Step {
	many, _ := parse.Takes(l[len(l)-1])
	out := make([][]api.Step, many)
	end := len(l) - 1
	for i := many - 1; i >= 0; i-- {
		begin := end
		for missing := 1; missing > 0; {
			begin--
			n, _ := parse.Takes(l[begin])
			missing += n - 1
		}
		out[i] = l[begin:end]
		end = begin
	}
	return out
}

// saidProgram is the program of a right expression that begins at a place.
func saidProgram(l []api.Step, at int) []api.Instr {
	last, parts := l[len(l)-1], pieces(l)
	if last.Kind == api.StepAnd || last.Kind == api.StepOr {
		jump, end := api.OpAnd, api.OpFlag
		if last.Kind == api.StepOr {
			jump, end = api.OpOr, api.OpJoin
		}
		first := saidProgram(parts[0], at)
		second := saidProgram(parts[1], at+len(first)+1)
		behind := at + len(first) + 1 + len(second) + 1
		out := append(first, api.Instr{Op: jump, To: behind})
		return append(append(out, second...), api.Instr{Op: end})
	}
	var out []api.Instr
	for _, part := range parts {
		out = append(out, saidProgram(part, at+len(out))...)
	}
	return append(out, api.Instr{Op: api.OpStep, Step: last})
}

// saidInstr tells whether an instruction is one, at a place of a program of so many.
func saidInstr(in api.Instr, at, many int) bool {
	_, right := parse.Takes(in.Step)
	logic := in.Step.Kind == api.StepAnd || in.Step.Kind == api.StepOr
	bare := in.Step.Kind == 0 && in.Step.N == 0 && in.Step.Text == ""
	switch in.Op {
	case api.OpStep:
		return right && !logic && in.To == 0
	case api.OpAnd, api.OpOr:
		return bare && at < in.To && in.To <= many
	case api.OpFlag, api.OpJoin:
		return bare && in.To == 0
	}
	return false
}

// standing is a place that is come to with so many values.
type standing struct{ place, height int }

// goes are where an instruction goes with so many values; none, if it needs more.
func goes(in api.Instr, from standing) []standing {
	next := standing{from.place + 1, from.height}
	switch {
	case in.Op == api.OpStep:
		takes, _ := parse.Takes(in.Step)
		if from.height < takes {
			return nil
		}
		next.height += 1 - takes
	case from.height < 1, in.Op == api.OpJoin && from.height < 2:
		return nil
	case in.Op == api.OpAnd:
		next.height--
		return []standing{{in.To, from.height}, next}
	case in.Op == api.OpOr:
		return []standing{{in.To, from.height}, next}
	case in.Op == api.OpJoin:
		next.height--
	}
	return []standing{next}
}

// saidRight tells whether a program is right: it goes all ways, and asks then at which heights each place was come to.
func saidRight(p []api.Instr) bool {
	if len(p) < 1 || len(p) > 2*api.MaxExpr {
		return false
	}
	for at, in := range p {
		if !saidInstr(in, at, len(p)) {
			return false
		}
	}
	met := map[standing]int{}
	for work := []standing{{}}; len(work) > 0; {
		from := work[len(work)-1]
		work = work[:len(work)-1]
		if met[from]++; met[from] > 1 || from.place == len(p) {
			continue
		}
		to := goes(p[from.place], from)
		if to == nil {
			return false
		}
		work = append(work, to...)
	}
	heights := make([]int, len(p)+1)
	for s := range met {
		heights[s.place]++
	}
	for _, many := range heights {
		if many != 1 {
			return false
		}
	}
	return met[standing{len(p), 1}] > 0
}

// saidText is the text of a right program.
func saidText(p []api.Instr) string {
	var out []byte
	for _, in := range p {
		out = append(out, byte(in.Op))
		if in.Op == api.OpStep {
			out = append(out, byte(in.Step.Kind))
			out = binary.AppendUvarint(out, uint64(in.Step.N))
			out = binary.AppendUvarint(out, uint64(len(in.Step.Text)))
			out = append(out, in.Step.Text...)
		}
		if in.Op == api.OpAnd || in.Op == api.OpOr {
			out = binary.AppendUvarint(out, uint64(in.To))
		}
	}
	return string(out)
}

// saidRead is Read of anything: it takes what can be taken somehow, and asks then whether that has just this text.
func saidRead(s string) ([]api.Instr, api.Errno) {
	if len(s) > api.MaxBytes {
		return nil, api.ErrLong
	}
	in := strings.NewReader(s)
	var out []api.Instr
	for in.Len() > 0 {
		op, _ := in.ReadByte()
		next := api.Instr{Op: api.Op(op)}
		if next.Op == api.OpStep {
			kind, _ := in.ReadByte()
			n, _ := binary.ReadUvarint(in)
			size, _ := binary.ReadUvarint(in)
			if size > uint64(in.Len()) {
				return nil, api.ErrForm
			}
			b := make([]byte, size)
			in.Read(b)
			next.Step = api.Step{Kind: api.StepKind(kind), N: int64(n), Text: string(b)}
		}
		if next.Op == api.OpAnd || next.Op == api.OpOr {
			to, _ := binary.ReadUvarint(in)
			next.To = int(to)
		}
		out = append(out, next)
	}
	if !saidRight(out) || saidText(out) != s {
		return nil, api.ErrForm
	}
	return out, api.OK
}
