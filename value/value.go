// Package value has the values of documents: see ../../shared/DOC.md and doc/02-value.md.
package value

import (
	"cmp"
	"slices"
	"strconv"
	"strings"
	"unicode/utf8"

	"codicil/api"
)

// Check tells why a value is not right.
func Check(v api.Value) api.Errno {
	return check(v, 0)
}

// Compare is -1, 0 or 1, as a is below b, alike, above.
func Compare(a, b api.Value) int {
	if a.Kind != b.Kind {
		return cmp.Compare(a.Kind, b.Kind)
	}
	switch a.Kind {
	case api.KindBool:
		return compareBools(a.B, b.B)
	case api.KindInt:
		return cmp.Compare(a.N, b.N)
	case api.KindText, api.KindBlob:
		return strings.Compare(a.S, b.S)
	case api.KindList:
		return compareLists(a.List, b.List, Compare)
	case api.KindStruct:
		return compareLists(a.Fields, b.Fields, compareFields)
	}
	return 0
}

// Same tells whether all fields are alike, those that a kind has not, too.
func Same(a, b api.Value) bool {
	return a.Kind == b.Kind && a.B == b.B && a.N == b.N && a.S == b.S &&
		sameLists(a.List, b.List, Same) && sameLists(a.Fields, b.Fields, sameFields)
}

// Get is what a path leads to, and whether it leads to anything.
func Get(v api.Value, path []string) (api.Value, bool) {
	for _, name := range path {
		part, is := step(v, name)
		if !is {
			return api.Value{}, false
		}
		v = part
	}
	return clone(v), true
}

// Put is a struct in which the first field of a name has x; if there is none, it is laid at its place.
func Put(v api.Value, name string, x api.Value) (api.Value, api.Errno) {
	if v.Kind != api.KindStruct {
		return api.Value{}, api.ErrType
	}
	out := clone(v)
	if i := find(out.Fields, named(name)); i < len(out.Fields) {
		out.Fields[i].Value = clone(x)
		return out, api.OK
	}
	greater := func(f api.Field) bool { return f.Name > name }
	field := cloneField(api.Field{Name: name, Value: x})
	out.Fields = slices.Insert(out.Fields, find(out.Fields, greater), field)
	return out, api.OK
}

// Drop is a struct without all fields of a name.
func Drop(v api.Value, name string) (api.Value, api.Errno) {
	if v.Kind != api.KindStruct {
		return api.Value{}, api.ErrType
	}
	out := clone(v)
	out.Fields = slices.DeleteFunc(out.Fields, named(name))
	return out, api.OK
}

// Count is how many values there are in a value, itself among them, whatever its kind.
func Count(v api.Value) int {
	many := 1
	for _, part := range v.List {
		many += Count(part)
	}
	for _, f := range v.Fields {
		many += Count(f.Value)
	}
	return many
}

// check is Check of a value that has so many lists and structs around it.
func check(v api.Value, around int) api.Errno {
	if why := checkAlone(v, around); why != api.OK {
		return why
	}
	for _, part := range v.List {
		if why := check(part, around+1); why != api.OK {
			return why
		}
	}
	for i, f := range v.Fields {
		if why := checkName(f.Name); why != api.OK {
			return why
		}
		if i > 0 && f.Name <= v.Fields[i-1].Name {
			return api.ErrTwice
		}
		if why := check(f.Value, around+1); why != api.OK {
			return why
		}
	}
	return api.OK
}

// checkAlone is the error of a value whose parts are not looked at.
func checkAlone(v api.Value, around int) api.Errno {
	nests := v.Kind == api.KindList || v.Kind == api.KindStruct
	switch {
	case v.Kind >= api.KindCount || strange(v):
		return api.ErrType
	case len(v.S) > api.MaxText:
		return api.ErrLong
	case v.Kind == api.KindText && !utf8.ValidString(v.S):
		return api.ErrUtf
	case len(v.List) > api.MaxParts || len(v.Fields) > api.MaxParts:
		return api.ErrMany
	case nests && around >= api.MaxDepth:
		return api.ErrDepth
	}
	return api.OK
}

// strange tells whether a field that the value's kind has not is not zero.
func strange(v api.Value) bool {
	return v.B && v.Kind != api.KindBool ||
		v.N != 0 && v.Kind != api.KindInt ||
		v.S != "" && v.Kind != api.KindText && v.Kind != api.KindBlob ||
		len(v.List) > 0 && v.Kind != api.KindList ||
		len(v.Fields) > 0 && v.Kind != api.KindStruct
}

func checkName(name string) api.Errno {
	switch {
	case name == "" || len(name) > api.MaxText:
		return api.ErrLong
	case !utf8.ValidString(name):
		return api.ErrUtf
	}
	return api.OK
}

func compareBools(a, b bool) int {
	switch {
	case a == b:
		return 0
	case b:
		return -1
	}
	return 1
}

func compareFields(a, b api.Field) int {
	if c := strings.Compare(a.Name, b.Name); c != 0 {
		return c
	}
	return Compare(a.Value, b.Value)
}

func sameFields(a, b api.Field) bool {
	return a.Name == b.Name && Same(a.Value, b.Value)
}

// compareLists tells by the first two parts that are unlike, else by how many there are.
func compareLists[T any](a, b []T, compare func(a, b T) int) int {
	for i := range min(len(a), len(b)) {
		if c := compare(a[i], b[i]); c != 0 {
			return c
		}
	}
	return cmp.Compare(len(a), len(b))
}

func sameLists[T any](a, b []T, same func(a, b T) bool) bool {
	if len(a) != len(b) {
		return false
	}
	for i := range a {
		if !same(a[i], b[i]) {
			return false
		}
	}
	return true
}

// step is the part that one name of a path leads to; it is not cloned.
func step(v api.Value, name string) (api.Value, bool) {
	switch v.Kind {
	case api.KindList:
		if i := place(name); i >= 0 && i < len(v.List) {
			return v.List[i], true
		}
	case api.KindStruct:
		// Anyone may make a struct whose names do not rise, so that it can't be halved.
		if i := find(v.Fields, named(name)); i < len(v.Fields) {
			return v.Fields[i].Value, true
		}
	}
	return api.Value{}, false
}

// place is the number that a name is; below 0, if it is no place.
func place(name string) int {
	n, err := strconv.Atoi(name)
	// Only the text that a number is written as leads to it: no needless noughts, no sign ahead.
	if err != nil || strconv.Itoa(n) != name {
		return -1
	}
	return n
}

// named is what tells whether a field has a name.
func named(name string) func(api.Field) bool {
	return func(f api.Field) bool { return f.Name == name }
}

// find is the place of the first field that is meant; if there is none, the place behind the last one.
func find(l []api.Field, meant func(api.Field) bool) int {
	for i, f := range l {
		if meant(f) {
			return i
		}
	}
	return len(l)
}

// clone is a value in memory of its own.
func clone(v api.Value) api.Value {
	v.S = strings.Clone(v.S)
	v.List = cloneList(v.List, clone)
	v.Fields = cloneList(v.Fields, cloneField)
	return v
}

func cloneField(f api.Field) api.Field {
	return api.Field{Name: strings.Clone(f.Name), Value: clone(f.Value)}
}

// cloneList makes no list of an empty one: nil and empty lists are alike.
func cloneList[T any](l []T, clone func(T) T) []T {
	if len(l) == 0 {
		return nil
	}
	out := make([]T, len(l))
	for i, x := range l {
		out[i] = clone(x)
	}
	return out
}
