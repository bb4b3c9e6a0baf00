package code_test

import (
	"slices"
	"testing"

	"codicil/api"
	"codicil/code"
)

// 13.1: each kind of step, behind the programs of its parts.
func TestCompileSteps(t *testing.T) {
	for _, a := range leaves {
		compiled(t, steps(a), program(do(a)))
		for _, s := range unary {
			compiled(t, steps(a, s), program(do(a), do(s)))
		}
		for _, b := range leaves {
			for _, s := range pairing[:9] {
				compiled(t, steps(a, b, s), program(do(a), do(b), do(s)))
			}
			for _, s := range steps(list(2), structOf("y", "x")) {
				compiled(t, steps(a, b, s), program(do(a), do(b), do(s)))
			}
			compiled(t, steps(a, b, step(api.StepAnd)), program(do(a), and(4), do(b), flag))
			compiled(t, steps(a, b, step(api.StepOr)), program(do(a), or(4), do(b), join))
		}
	}
	for n := range api.MaxParts + 1 {
		l, p := times(n, whole(int64(n))), times(n, do(whole(int64(n))))
		compiled(t, append(l, list(n)), append(p, do(list(n))))
		s := structOf(names(n, 64)...)
		compiled(t, append(l[:n:n], s), append(p[:n:n], do(s)))
	}
}

// 13.1: AND and OR within one another, and as parts of other operators.
func TestCompileLogic(t *testing.T) {
	var a, b, c, d = do(path("a")), do(path("b")), do(path("c")), do(path("d"))
	add, neg, two := do(step(api.StepAdd)), do(step(api.StepNeg)), do(list(2))
	for s, want := range map[string][]api.Instr{
		"a AND b":                       {a, and(4), b, flag},
		"a OR b":                        {a, or(4), b, join},
		"a AND a":                       {a, and(4), a, flag},
		"(a AND b) AND c":               {a, and(4), b, flag, and(7), c, flag},
		"a AND (b AND c)":               {a, and(7), b, and(6), c, flag, flag},
		"(a OR b) OR c":                 {a, or(4), b, join, or(7), c, join},
		"a OR (b OR c)":                 {a, or(7), b, or(6), c, join, join},
		"(a AND b) OR c":                {a, and(4), b, flag, or(7), c, join},
		"a AND (b OR c)":                {a, and(7), b, or(6), c, join, flag},
		"(a OR b) AND c":                {a, or(4), b, join, and(7), c, flag},
		"a OR (b AND c)":                {a, or(7), b, and(6), c, flag, join},
		"(a AND b) AND (c AND d)":       {a, and(4), b, flag, and(10), c, and(9), d, flag, flag},
		"(a OR b) AND (c OR d)":         {a, or(4), b, join, and(10), c, or(9), d, join, flag},
		"(a AND b) OR (c AND d)":        {a, and(4), b, flag, or(10), c, and(9), d, flag, join},
		"a AND (b OR (c AND d))":        {a, and(10), b, or(9), c, and(8), d, flag, join, flag},
		"NOT (a AND b)":                 {a, and(4), b, flag, not},
		"NOT a AND NOT b":               {a, not, and(6), b, not, flag},
		"-(a OR b)":                     {a, or(4), b, join, neg},
		"(a AND b) = (c OR d)":          {a, and(4), b, flag, c, or(8), d, join, same},
		"a = (b AND c)":                 {a, b, and(5), c, flag, same},
		"(a OR b) = c":                  {a, or(4), b, join, c, same},
		"a = b AND c = d":               {a, b, same, and(8), c, d, same, flag},
		"a + b OR c + d":                {a, b, add, or(8), c, d, add, join},
		"[a AND b, c OR d]":             {a, and(4), b, flag, c, or(8), d, join, two},
		"[a, b] AND [c, d]":             {a, b, two, and(8), c, d, two, flag},
		"[a, [b OR c, d]]":              {a, b, or(5), c, join, d, two, two},
		"{y: a AND b, x: c}":            {a, and(4), b, flag, c, do(structOf("y", "x"))},
		"[a AND b, c, d OR a] IS NULL":  {a, and(4), b, flag, c, d, or(9), a, join, do(list(3)), do(step(api.StepIsNull))},
		"[] AND {}":                     {do(list(0)), and(4), do(structOf()), flag},
		"((a AND b) = c OR d) AND NULL": {a, and(4), b, flag, c, same, or(9), d, join, and(12), null, flag},
	} {
		compiled(t, read(t, s), want)
	}
}

// The chapter's example.
func TestExample(t *testing.T) {
	compiled(t, read(t, "a AND b"), program(do(path("a")), and(4), do(path("b")), flag))
}

// 13.1, 13.3: expressions of MaxExpr steps: as many instructions as there are steps, and as many more as there are ANDs and ORs.
func TestCompileLong(t *testing.T) {
	yes := step(api.StepTrue)
	for _, s := range steps(step(api.StepAnd), step(api.StepOr), step(api.StepAdd), step(api.StepLeast)) {
		first := steps(yes)
		for range 63 {
			first = append(first, yes, s)
		}
		second := slices.Concat(times(64, yes), times(63, s))
		for _, l := range [][]api.Step{first, second} {
			for _, l := range [][]api.Step{l, append(l[:127:127], step(api.StepNot))} {
				many := len(l)
				if s.Kind == api.StepAnd || s.Kind == api.StepOr {
					many += 63
				}
				p, why := code.Compile(l)
				if why != api.OK || len(p) != many || !slices.Equal(p, saidProgram(l, 0)) {
					t.Errorf("%d steps: %d instructions, error %d: %s", len(l), len(p), why, shown(p))
				}
				right(t, p)
			}
		}
		for _, l := range [][]api.Step{append(first, unary[0], unary[0]), append(second, unary[0], unary[0]), append(first, yes, s)} {
			if p, why := code.Compile(l); len(p) != 0 || why != api.ErrSyntax {
				t.Errorf("%d steps: %s, error %d", len(l), shown(p), why)
			}
		}
	}
	compiled(t, slices.Concat(steps(yes), times(127, step(api.StepNot))), slices.Concat(program(do(yes)), times(127, not)))
	// Where each jump of a long row goes.
	p, _ := code.Compile(slices.Concat(times(64, yes), times(63, step(api.StepOr))))
	for i := range 63 {
		if p[2*i] != do(yes) || p[2*i+1] != or(190-i) || p[127+i] != join {
			t.Errorf("%d: %s", i, shown(p))
		}
	}
}

// 13.1: expressions that are not right.
func TestCompileWrong(t *testing.T) {
	for _, l := range wrongExprs() {
		if p, why := code.Compile(l); len(p) != 0 || why != api.ErrSyntax {
			t.Errorf("Compile(%s): %s, error %d", show(l), shown(p), why)
		}
	}
}

// 13.1, 13.3: of any right expression.
func TestCompileAny(t *testing.T) {
	m := newMaker(131)
	met := map[api.Op]int{}
	for i := range 4000 {
		l := m.expr(1 + i%api.MaxExpr)
		want := saidProgram(l, 0)
		compiled(t, l, want)
		if len(want) > 2*len(l) {
			t.Errorf("%d steps, %d instructions", len(l), len(want))
		}
		for _, in := range want {
			met[in.Op]++
		}
		if t.Failed() {
			return
		}
	}
	if met[api.OpAnd] < 1000 || met[api.OpOr] < 1000 {
		t.Errorf("met %v", met)
	}
}
