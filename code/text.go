package code

import (
	"strings"

	"codicil/api"
	"codicil/bin"
)

// written is a right program's text, however long.
func written(p []api.Instr) string {
	var out []byte
	for _, in := range p {
		out = append(out, byte(in.Op))
		switch in.Op {
		case api.OpStep:
			out = append(out, byte(in.Step.Kind))
			out = append(out, bin.Number(uint64(in.Step.N))...)
			out = append(out, bin.Number(uint64(len(in.Step.Text)))...)
			out = append(out, in.Step.Text...)
		case api.OpAnd, api.OpOr:
			out = append(out, bin.Number(uint64(in.To))...)
		}
	}
	return string(out)
}

// reader has what is left of a text; it is bad for good as soon as it was not as it must be.
type reader struct {
	rest string
	bad  bool
}

// fail leaves nothing to be read.
func (r *reader) fail() {
	r.rest, r.bad = "", true
}

// take are the next bytes, which share the text's memory.
func (r *reader) take(many uint64) string {
	if many > uint64(len(r.rest)) {
		r.fail()
		return ""
	}
	piece := r.rest[:many]
	r.rest = r.rest[many:]
	return piece
}

func (r *reader) one() byte {
	if b := r.take(1); b != "" {
		return b[0]
	}
	return 0
}

func (r *reader) number() uint64 {
	n, many, why := bin.ReadNumber(r.rest)
	if why != api.OK {
		r.fail()
	}
	r.take(uint64(many))
	return n
}

// place is a number that may be an instruction's To.
func (r *reader) place() int {
	n := r.number()
	if n > most {
		r.fail()
		return 0
	}
	return int(n)
}

func (r *reader) program() []api.Instr {
	var out []api.Instr
	for r.rest != "" {
		out = append(out, r.instr())
	}
	return out
}

// instr may be any instruction that can be written: whether it is right is not asked here.
func (r *reader) instr() api.Instr {
	in := api.Instr{Op: api.Op(r.one())}
	switch in.Op {
	case api.OpStep:
		in.Step = r.step()
	case api.OpAnd, api.OpOr:
		in.To = r.place()
	}
	return in
}

func (r *reader) step() api.Step {
	kind := api.StepKind(r.one())
	n := int64(r.number())
	return api.Step{Kind: kind, N: n, Text: strings.Clone(r.take(r.number()))}
}
