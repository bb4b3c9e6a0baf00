package vm_test

import (
	"math/big"
	"sort"
	"strings"

	"codicil/api"
	"codicil/code"
	"codicil/parse"
	"codicil/value"
)

// What follows are the chapters' words to the letter, by other means than the packages': no call of expr.

// saidStep is Step of anything.
func saidStep(s api.Step, row api.Value, l []api.Value) (api.Value, api.Errno) {
	many, is := parse.Takes(s)
	if !is || s.Kind == api.StepAnd || s.Kind == api.StepOr || many != len(l) {
		return api.Value{}, api.ErrSyntax
	}
	for _, v := range append([]api.Value{row}, l...) {
		if why := value.Check(v); why != api.OK {
			return api.Value{}, why
		}
	}
	return makes(s, row, l)
}

// makes is what any step but AND and OR makes of values.
func makes(s api.Step, row api.Value, l []api.Value) (api.Value, api.Errno) {
	switch s.Kind {
	case api.StepNull:
		return api.Value{}, api.OK
	case api.StepTrue, api.StepFalse:
		return api.Value{Kind: api.KindBool, B: s.Kind == api.StepTrue}, api.OK
	case api.StepInt:
		return api.Value{Kind: api.KindInt, N: s.N}, api.OK
	case api.StepText:
		return api.Value{Kind: api.KindText, S: s.Text}, api.OK
	case api.StepPath:
		v, is := value.Get(row, strings.Split(s.Text, "."))
		if !is {
			v = api.Value{}
		}
		return v, api.OK
	case api.StepList, api.StepStruct:
		v := api.Value{Kind: api.KindList, List: l}
		if s.Kind == api.StepStruct {
			v = api.Value{Kind: api.KindStruct}
			for i := range l {
				v.Fields = append(v.Fields, api.Field{Name: strings.Split(s.Text, ",")[i], Value: l[i]})
			}
			sort.Slice(v.Fields, func(i, j int) bool { return v.Fields[i].Name < v.Fields[j].Name })
		}
		if why := value.Check(v); why != api.OK {
			return api.Value{}, why
		}
		return v, api.OK
	case api.StepIsNull:
		return api.Value{Kind: api.KindBool, B: l[0].Kind == api.KindNull}, api.OK
	}
	for _, v := range l {
		if v.Kind == api.KindNull {
			return api.Value{}, api.OK
		}
	}
	return operates(s.Kind, l)
}

// operates is what operators make of values that are not null.
func operates(kind api.StepKind, l []api.Value) (api.Value, api.Errno) {
	kinds := map[api.Kind]int{}
	for _, v := range l {
		kinds[v.Kind]++
	}
	switch kind {
	case api.StepNeg, api.StepAdd, api.StepSub, api.StepMul:
		if kinds[api.KindInt] != len(l) {
			return api.Value{}, api.ErrType
		}
		n := big.NewInt(l[0].N)
		switch kind {
		case api.StepNeg:
			n.Neg(n)
		case api.StepAdd:
			n.Add(n, big.NewInt(l[1].N))
		case api.StepSub:
			n.Sub(n, big.NewInt(l[1].N))
		case api.StepMul:
			n.Mul(n, big.NewInt(l[1].N))
		}
		if !n.IsInt64() {
			return api.Value{}, api.ErrOver
		}
		return api.Value{Kind: api.KindInt, N: n.Int64()}, api.OK
	case api.StepNot:
		if kinds[api.KindBool] != 1 {
			return api.Value{}, api.ErrType
		}
		return api.Value{Kind: api.KindBool, B: !l[0].B}, api.OK
	}
	if kind != api.StepEqual && kind != api.StepUnlike && (len(kinds) != 1 || kinds[api.KindList] > 0 || kinds[api.KindStruct] > 0) {
		return api.Value{}, api.ErrType
	}
	c := value.Compare(l[0], l[1])
	is := map[api.StepKind]bool{api.StepEqual: c == 0, api.StepUnlike: c != 0, api.StepLess: c == -1, api.StepMost: c != 1, api.StepMore: c == 1, api.StepLeast: c != -1}
	return api.Value{Kind: api.KindBool, B: is[kind]}, api.OK
}

// saidRun is Run of anything.
func saidRun(p []api.Instr, row api.Value, fuel int) (api.Value, int, api.Errno) {
	if why := code.Check(p); why != api.OK {
		return api.Value{}, 0, why
	}
	if why := value.Check(row); why != api.OK {
		return api.Value{}, 0, why
	}
	if fuel < 0 || fuel > api.MaxFuel {
		return api.Value{}, 0, api.ErrRange
	}
	return saidFrom(p, row, fuel, 0, nil)
}

// truth is what logic takes a value for: no, null, false, true, in this order.
func truth(v api.Value) int {
	switch {
	case v.Kind == api.KindNull:
		return 1
	case v.Kind == api.KindBool && !v.B:
		return 2
	case v.Kind == api.KindBool:
		return 3
	}
	return 0
}

// saidFrom is the rest of a run, from an instruction on, with these values on the stack.
func saidFrom(p []api.Instr, row api.Value, fuel, at int, values []api.Value) (api.Value, int, api.Errno) {
	if at == len(p) {
		return values[0], fuel, api.OK
	}
	if fuel == 0 {
		return api.Value{}, 0, api.ErrFuel
	}
	fuel--
	in, n := p[at], len(values)
	if in.Op == api.OpStep {
		many, _ := parse.Takes(in.Step)
		v, why := makes(in.Step, row, values[n-many:n:n])
		if why != api.OK {
			return api.Value{}, fuel, why
		}
		return saidFrom(p, row, fuel, at+1, append(values[:n-many:n-many], v))
	}
	last := truth(values[n-1])
	if last == 0 || in.Op == api.OpJoin && truth(values[n-2]) == 0 {
		return api.Value{}, fuel, api.ErrType
	}
	switch {
	case in.Op == api.OpAnd && last != 3, in.Op == api.OpOr && last == 3:
		return saidFrom(p, row, fuel, in.To, values)
	case in.Op == api.OpAnd:
		return saidFrom(p, row, fuel, at+1, values[:n-1:n-1])
	case in.Op != api.OpJoin:
		return saidFrom(p, row, fuel, at+1, values)
	}
	put := api.Value{Kind: api.KindBool}
	if last == 3 {
		put.B = true
	} else if last == 1 || truth(values[n-2]) == 1 {
		put = api.Value{}
	}
	return saidFrom(p, row, fuel, at+1, append(values[:n-2:n-2], put))
}
