package front_test

import (
	"cmp"
	"fmt"
	"reflect"
	"slices"
	"strings"
	"testing"
	"unsafe"

	"codicil/api"
	"codicil/front"
)

// most is the greatest number.
const most = 1<<31 - 1

func xs(n int) string { return strings.Repeat("x", n) }

func null() api.Value { return api.Value{} }

func flag(b bool) api.Value { return api.Value{Kind: api.KindBool, B: b} }

func number(n int64) api.Value { return api.Value{Kind: api.KindInt, N: n} }

func word(s string) api.Value { return api.Value{Kind: api.KindText, S: s} }

func blob(s string) api.Value { return api.Value{Kind: api.KindBlob, S: s} }

func all(l ...api.Value) api.Value { return api.Value{Kind: api.KindList, List: l} }

// doc is a struct; names and values take turns.
func doc(l ...any) api.Value {
	v := api.Value{Kind: api.KindStruct}
	for i := 0; i < len(l); i += 2 {
		v.Fields = append(v.Fields, api.Field{Name: l[i].(string), Value: l[i+1].(api.Value)})
	}
	return v
}

// many are n things, each made of its number.
func many[T any](n int, of func(i int) T) []T {
	var out []T
	for i := range n {
		out = append(out, of(i))
	}
	return out
}

// read is what Parse tells.
type read struct {
	Orders []api.Order
	Why    api.Errno
	At     int
}

// run is what Run tells.
type run struct {
	Text string
	Why  api.Errno
	At   int
}

// print is what Print tells.
type print struct {
	Text string
	Why  api.Errno
}

// isRead fails, unless Parse answers what the chapter says; it tells the answer.
func isRead(t *testing.T, script string) read {
	t.Helper()
	var got read
	got.Orders, got.Why, got.At = front.Parse(script)
	if want := saidParse(script); !same(got, want) {
		t.Fatalf("Parse(%s): %s, not %s", show(script), show(got), show(want))
	}
	return got
}

// isPrinted fails, unless Print answers what the chapter says, and leaves what it was handed; it tells the answer.
func isPrinted(t *testing.T, l []api.Order) print {
	t.Helper()
	ahead := twin(l)
	var got print
	got.Text, got.Why = front.Print(l)
	if want := saidPrint(l); got != want {
		t.Fatalf("Print(%s): %s, not %s", show(l), show(got), show(want))
	}
	if !same(l, ahead) {
		t.Fatalf("Print changed %s", show(ahead))
	}
	return got
}

// isRun fails, unless Run answers what the chapter says; it tells the answer.
func isRun(t *testing.T, room int, script string) run {
	t.Helper()
	var got run
	got.Text, got.Why, got.At = front.Run(room, script)
	if want := saidRun(room, script); got != want {
		t.Fatalf("Run(%d, %s): %s, not %s", room, show(script), show(got), show(want))
	}
	return got
}

// lines fail, unless a script comes to what is told beside its lines: order and answer take turns.
func lines(t *testing.T, room int, l ...string) {
	t.Helper()
	var script, want strings.Builder
	for i := 0; i < len(l); i += 2 {
		script.WriteString(l[i] + "\n")
		want.WriteString(l[i+1] + "\n")
	}
	got := isRun(t, room, script.String())
	if got.Why != api.OK || got.At != 0 {
		t.Fatalf("Run(%s): error %d, line %d", show(script.String()), got.Why, got.At)
	}
	is, said := strings.Split(got.Text, "\n"), strings.Split(want.String(), "\n")
	for i := range min(len(is), len(said)) {
		if is[i] != said[i] {
			t.Fatalf("line %d, %s: %s, not %s", i+1, show(l[2*i]), show(is[i]), show(said[i]))
		}
	}
	if got.Text != want.String() {
		t.Fatalf("Run: %s, not %s", show(got.Text), show(want.String()))
	}
}

// show is what a failure tells of something that may be long.
func show(x any) string {
	s := fmt.Sprintf("%q", fmt.Sprint(x))
	return s[:min(len(s), 600)]
}

// same tells whether two things are alike, nil and empty lists being so, too.
func same(a, b any) bool { return alike(reflect.ValueOf(a), reflect.ValueOf(b)) }

func alike(a, b reflect.Value) bool {
	switch a.Kind() {
	case reflect.Slice:
		if a.Len() != b.Len() {
			return false
		}
		for i := range a.Len() {
			if !alike(a.Index(i), b.Index(i)) {
				return false
			}
		}
		return true
	case reflect.Struct:
		for i := range a.NumField() {
			if !alike(a.Field(i), b.Field(i)) {
				return false
			}
		}
		return true
	}
	return a.Equal(b)
}

// twin is a copy that shares no lists and no texts.
func twin[T any](x T) T {
	copyTo(reflect.ValueOf(&x).Elem(), reflect.ValueOf(x))
	return x
}

func copyTo(to, from reflect.Value) {
	switch from.Kind() {
	case reflect.String:
		to.SetString(strings.Clone(from.String()))
	case reflect.Slice:
		if from.IsNil() {
			return
		}
		l := reflect.MakeSlice(from.Type(), from.Len(), from.Len())
		for i := range from.Len() {
			copyTo(l.Index(i), from.Index(i))
		}
		to.Set(l)
	case reflect.Struct:
		for i := range from.NumField() {
			copyTo(to.Field(i), from.Field(i))
		}
	default:
		to.Set(from)
	}
}

// lent is a copy all of whose texts and lists can be spoiled behind its back.
func lent[T any](x T) (T, func()) {
	x = twin(x)
	var spoil []func()
	lend(reflect.ValueOf(&x).Elem(), &spoil)
	return x, func() {
		for _, f := range spoil {
			f()
		}
	}
}

func lend(x reflect.Value, spoil *[]func()) {
	switch x.Kind() {
	case reflect.String:
		if x.Len() == 0 {
			return
		}
		b := []byte(x.String())
		x.SetString(unsafe.String(&b[0], len(b)))
		*spoil = append(*spoil, func() {
			for i := range b {
				b[i] = '!'
			}
		})
	case reflect.Slice:
		for i := range x.Len() {
			lend(x.Index(i), spoil)
		}
		l := x.Slice(0, x.Len())
		*spoil = append(*spoil, func() {
			for i := range l.Len() {
				l.Index(i).SetZero()
			}
		})
	case reflect.Struct:
		for i := range x.NumField() {
			lend(x.Field(i), spoil)
		}
	}
}

// span is a piece of memory; own: it is an answer's.
type span struct {
	from, to uintptr
	own      bool
}

// spans are the pieces of memory in which texts and lists of x lie.
func spans(x reflect.Value, own bool) []span {
	var out []span
	switch x.Kind() {
	case reflect.String:
		if x.Len() > 0 {
			from := uintptr(x.UnsafePointer())
			out = append(out, span{from, from + uintptr(x.Len()), own})
		}
	case reflect.Slice:
		if x.Cap() > 0 {
			from := x.Pointer()
			out = append(out, span{from, from + uintptr(x.Cap())*x.Type().Elem().Size(), own})
		}
		for i := range x.Len() {
			out = append(out, spans(x.Index(i), own)...)
		}
	case reflect.Struct:
		for i := range x.NumField() {
			out = append(out, spans(x.Field(i), own)...)
		}
	}
	return out
}

// apart fails, if an answer shares memory with itself or with one of the others.
func apart(t *testing.T, answer any, others ...any) {
	t.Helper()
	l := spans(reflect.ValueOf(answer), true)
	for _, o := range others {
		l = append(l, spans(reflect.ValueOf(o), false)...)
	}
	slices.SortFunc(l, func(a, b span) int { return cmp.Compare(a.from, b.from) })
	var end, ownEnd uintptr
	for _, s := range l {
		if s.from < ownEnd || s.own && s.from < end {
			t.Fatal("shared memory in", show(answer))
		}
		end = max(end, s.to)
		if s.own {
			ownEnd = max(ownEnd, s.to)
		}
	}
}
