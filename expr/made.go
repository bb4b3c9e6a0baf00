package expr

import (
	"cmp"
	"math"
	"slices"
	"strings"

	"codicil/api"
	"codicil/value"
)

func flag(b bool) api.Value { return api.Value{Kind: api.KindBool, B: b} }

func number(n int64) api.Value { return api.Value{Kind: api.KindInt, N: n} }

func isNull(v api.Value) bool { return v.Kind == api.KindNull }

func isTrue(v api.Value) bool { return v.Kind == api.KindBool && v.B }

// isFlag tells whether a value is one that logic knows: null or a bool.
func isFlag(v api.Value) bool { return isNull(v) || v.Kind == api.KindBool }

// made is what a right step, which is neither AND nor OR, makes of the values that it takes, which it may keep.
func made(s api.Step, l []api.Value) (api.Value, api.Errno) {
	switch s.Kind {
	case api.StepList:
		return checked(api.Value{Kind: api.KindList, List: l})
	case api.StepStruct:
		return checked(structOf(s.Text, l))
	case api.StepIsNull:
		return flag(isNull(l[0])), api.OK
	}
	if slices.ContainsFunc(l, isNull) {
		return api.Value{}, api.OK
	}
	switch s.Kind {
	case api.StepNot:
		return not(l[0])
	case api.StepNeg:
		return reckoned(api.StepSub, number(0), l[0])
	case api.StepAdd, api.StepSub, api.StepMul:
		return reckoned(s.Kind, l[0], l[1])
	case api.StepEqual:
		return flag(value.Compare(l[0], l[1]) == 0), api.OK
	case api.StepUnlike:
		return flag(value.Compare(l[0], l[1]) != 0), api.OK
	}
	return ordered(s.Kind, l[0], l[1])
}

// checked is a value, if it is right: its parts are, but may be nested too deep now.
func checked(v api.Value) (api.Value, api.Errno) {
	if why := value.Check(v); why != api.OK {
		return api.Value{}, why
	}
	return v, api.OK
}

// structOf is a struct of values, under names with a comma between.
func structOf(names string, l []api.Value) api.Value {
	out := api.Value{Kind: api.KindStruct}
	for i, name := range strings.Split(names, ",")[:len(l)] {
		out.Fields = append(out.Fields, api.Field{Name: strings.Clone(name), Value: l[i]})
	}
	slices.SortFunc(out.Fields, func(a, b api.Field) int { return cmp.Compare(a.Name, b.Name) })
	return out
}

func not(v api.Value) (api.Value, api.Errno) {
	if v.Kind != api.KindBool {
		return api.Value{}, api.ErrType
	}
	return flag(!v.B), api.OK
}

// reckoned is a sum, a difference or a product.
func reckoned(kind api.StepKind, a, b api.Value) (api.Value, api.Errno) {
	if a.Kind != api.KindInt || b.Kind != api.KindInt {
		return api.Value{}, api.ErrType
	}
	var n int64
	var over bool
	switch kind {
	case api.StepAdd:
		n, over = a.N+b.N, overSum(a.N, b.N)
	case api.StepSub:
		n, over = a.N-b.N, overDifference(a.N, b.N)
	case api.StepMul:
		n, over = a.N*b.N, overProduct(a.N, b.N)
	}
	if over {
		return api.Value{}, api.ErrOver
	}
	return number(n), api.OK
}

func overSum(a, b int64) bool {
	if b < 0 {
		return a < math.MinInt64-b
	}
	return a > math.MaxInt64-b
}

func overDifference(a, b int64) bool {
	if b < 0 {
		return a > math.MaxInt64+b
	}
	return a < math.MinInt64+b
}

func overProduct(a, b int64) bool {
	switch {
	case a == 0 || b == 0:
		return false
	case a == -1 || b == -1:
		// The least number can't be turned round, and its division by -1 would not show that.
		return a == math.MinInt64 || b == math.MinInt64
	}
	return a*b/b != a
}

// ordered tells how two values of one kind stand to each other.
func ordered(kind api.StepKind, a, b api.Value) (api.Value, api.Errno) {
	if a.Kind != b.Kind || a.Kind == api.KindList || a.Kind == api.KindStruct {
		return api.Value{}, api.ErrType
	}
	c := value.Compare(a, b)
	switch kind {
	case api.StepLess:
		return flag(c < 0), api.OK
	case api.StepMost:
		return flag(c <= 0), api.OK
	case api.StepMore:
		return flag(c > 0), api.OK
	}
	return flag(c >= 0), api.OK
}
