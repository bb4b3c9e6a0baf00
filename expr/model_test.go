package expr_test

import (
	"math/big"
	"sort"
	"strings"

	"codicil/api"
	"codicil/parse"
	"codicil/value"
)

// What follows are the chapter's words to the letter, by other means than the package's: no tree, but pieces of the steps.

// pieces are the expressions that the last step of a right one takes, found from the end.
func pieces(l []api.Step) [][]api.Step {
	many, _ := parse.Takes(l[len(l)-1])
	out := make([][]api.Step, many)
	end := len(l) - 1
	for i := many - 1; i >= 0; i-- {
		begin := end
		for missing := 1; missing > 0; {
			begin--
			n, _ := parse.Takes(l[begin])
			missing += n - 1
		}
		out[i] = l[begin:end]
		end = begin
	}
	return out
}

// said is Eval of anything.
func said(l []api.Step, row api.Value) (api.Value, api.Errno) {
	if !parse.Right(l) {
		return api.Value{}, api.ErrSyntax
	}
	if why := value.Check(row); why != api.OK {
		return api.Value{}, why
	}
	return comesTo(l, row)
}

// comesTo is what a right expression comes to.
func comesTo(l []api.Step, row api.Value) (api.Value, api.Errno) {
	last := l[len(l)-1]
	parts := pieces(l)
	if last.Kind == api.StepAnd || last.Kind == api.StepOr {
		return logic(last.Kind, row, parts[0], parts[1])
	}
	var values []api.Value
	for _, p := range parts {
		v, why := comesTo(p, row)
		if why != api.OK {
			return api.Value{}, why
		}
		values = append(values, v)
	}
	return makes(last, row, values)
}

// logic is AND and OR, by what the first part comes to, then by what the second one does.
func logic(kind api.StepKind, row api.Value, a, b []api.Step) (api.Value, api.Errno) {
	word := func(l []api.Step) (string, api.Errno) {
		v, why := comesTo(l, row)
		switch {
		case why != api.OK:
			return "", why
		case v.Kind == api.KindNull:
			return "null", api.OK
		case v.Kind != api.KindBool:
			return "", api.ErrType
		case v.B:
			return "true", api.OK
		}
		return "false", api.OK
	}
	values := map[string]api.Value{"null": {}, "true": {Kind: api.KindBool, B: true}, "false": {Kind: api.KindBool}}
	ends := map[api.StepKind][]string{api.StepAnd: {"null", "false"}, api.StepOr: {"true"}}
	first, why := word(a)
	if why != api.OK {
		return api.Value{}, why
	}
	for _, end := range ends[kind] {
		if first == end {
			return values[first], api.OK
		}
	}
	second, why := word(b)
	if why != api.OK {
		return api.Value{}, why
	}
	table := map[api.StepKind]map[string]string{
		api.StepAnd: {"true true": "true", "true false": "false", "true null": "null"},
		api.StepOr:  {"null true": "true", "null false": "null", "null null": "null", "false true": "true", "false false": "false", "false null": "null"},
	}
	return values[table[kind][first+" "+second]], api.OK
}

// makes is what any step but AND and OR makes of values.
func makes(s api.Step, row api.Value, l []api.Value) (api.Value, api.Errno) {
	switch s.Kind {
	case api.StepNull:
		return api.Value{}, api.OK
	case api.StepTrue, api.StepFalse:
		return api.Value{Kind: api.KindBool, B: s.Kind == api.StepTrue}, api.OK
	case api.StepInt:
		return api.Value{Kind: api.KindInt, N: s.N}, api.OK
	case api.StepText:
		return api.Value{Kind: api.KindText, S: s.Text}, api.OK
	case api.StepPath:
		v, is := value.Get(row, strings.Split(s.Text, "."))
		if !is {
			v = api.Value{}
		}
		return v, api.OK
	case api.StepList, api.StepStruct:
		v := api.Value{Kind: api.KindList, List: l}
		if s.Kind == api.StepStruct {
			v = api.Value{Kind: api.KindStruct}
			for i := range l {
				v.Fields = append(v.Fields, api.Field{Name: strings.Split(s.Text, ",")[i], Value: l[i]})
			}
			sort.Slice(v.Fields, func(i, j int) bool { return v.Fields[i].Name < v.Fields[j].Name })
		}
		if why := value.Check(v); why != api.OK {
			return api.Value{}, why
		}
		return v, api.OK
	case api.StepIsNull:
		return api.Value{Kind: api.KindBool, B: l[0].Kind == api.KindNull}, api.OK
	}
	for _, v := range l {
		if v.Kind == api.KindNull {
			return api.Value{}, api.OK
		}
	}
	return operates(s.Kind, l)
}

// operates is what operators make of values that are not null.
func operates(kind api.StepKind, l []api.Value) (api.Value, api.Errno) {
	kinds := map[api.Kind]int{}
	for _, v := range l {
		kinds[v.Kind]++
	}
	switch kind {
	case api.StepNeg, api.StepAdd, api.StepSub, api.StepMul:
		if kinds[api.KindInt] != len(l) {
			return api.Value{}, api.ErrType
		}
		n := big.NewInt(l[0].N)
		switch kind {
		case api.StepNeg:
			n.Neg(n)
		case api.StepAdd:
			n.Add(n, big.NewInt(l[1].N))
		case api.StepSub:
			n.Sub(n, big.NewInt(l[1].N))
		case api.StepMul:
			n.Mul(n, big.NewInt(l[1].N))
		}
		if !n.IsInt64() {
			return api.Value{}, api.ErrOver
		}
		return api.Value{Kind: api.KindInt, N: n.Int64()}, api.OK
	case api.StepNot:
		if kinds[api.KindBool] != 1 {
			return api.Value{}, api.ErrType
		}
		return api.Value{Kind: api.KindBool, B: !l[0].B}, api.OK
	}
	if kind != api.StepEqual && kind != api.StepUnlike && (len(kinds) != 1 || kinds[api.KindList] > 0 || kinds[api.KindStruct] > 0) {
		return api.Value{}, api.ErrType
	}
	c := value.Compare(l[0], l[1])
	is := map[api.StepKind]bool{api.StepEqual: c == 0, api.StepUnlike: c != 0, api.StepLess: c == -1, api.StepMost: c != 1, api.StepMore: c == 1, api.StepLeast: c != -1}
	return api.Value{Kind: api.KindBool, B: is[kind]}, api.OK
}

// saidHolds is Holds of anything.
func saidHolds(l []api.Step, row api.Value) (bool, api.Errno) {
	if len(l) == 0 {
		why := value.Check(row)
		return why == api.OK, why
	}
	v, why := said(l, row)
	if why == api.OK && v.Kind != api.KindNull && v.Kind != api.KindBool {
		return false, api.ErrType
	}
	return why == api.OK && v.B, why
}

// saidLiteral is Literal of anything.
func saidLiteral(l []api.Step) (api.Value, bool) {
	for _, s := range l {
		if _, is := parse.Takes(s); !is {
			return api.Value{}, false
		}
	}
	one := len(l) == 1 && (l[0].Kind == api.StepTrue || l[0].Kind == api.StepFalse || l[0].Kind == api.StepInt || l[0].Kind == api.StepText)
	if one || len(l) == 2 && l[0].Kind == api.StepInt && l[1].Kind == api.StepNeg {
		v, _ := comesTo(l, api.Value{})
		return v, true
	}
	return api.Value{}, false
}

// saidParts is Parts of anything.
func saidParts(l []api.Step) ([]api.Step, []api.Step, bool) {
	if !parse.Right(l) {
		return nil, nil, false
	}
	if many, _ := parse.Takes(l[len(l)-1]); many != 2 {
		return nil, nil, false
	}
	p := pieces(l)
	return p[0], p[1], true
}
