package bin

import (
	"codicil/api"
	"codicil/value"
)

// Write is a value's text.
func Write(v api.Value) (string, api.Errno) {
	if why := value.Check(v); why != api.OK {
		return "", why
	}
	var w writer
	w.value(v)
	if w.over() {
		return "", api.ErrLong
	}
	return string(w.out), api.OK
}

// writer has the bytes that are written so far.
type writer struct {
	out []byte
}

func (w *writer) value(v api.Value) {
	switch v.Kind {
	case api.KindNull:
		w.first(firstNull)
	case api.KindBool:
		w.truth(v.B)
	case api.KindInt:
		w.first(firstInt)
		w.number(folded(v.N))
	case api.KindText:
		w.first(firstText)
		w.text(v.S)
	case api.KindBlob:
		w.first(firstBlob)
		w.text(v.S)
	case api.KindList:
		w.first(firstList)
		w.parts(len(v.List), func(i int) { w.value(v.List[i]) })
	case api.KindStruct:
		w.first(firstStruct)
		w.parts(len(v.Fields), func(i int) {
			w.text(v.Fields[i].Name)
			w.value(v.Fields[i].Value)
		})
	}
}

func (w *writer) first(b byte) {
	w.out = append(w.out, b)
}

func (w *writer) truth(b bool) {
	if b {
		w.first(firstTrue)
	} else {
		w.first(firstFalse)
	}
}

func (w *writer) number(n uint64) {
	w.out = append(w.out, Number(n)...)
}

func (w *writer) text(s string) {
	w.number(uint64(len(s)))
	w.out = append(w.out, s...)
}

func (w *writer) parts(many int, part func(i int)) {
	w.number(uint64(many))
	for i := range many {
		// A right value may have far more parts than its text may have bytes: what no one will see is not written.
		if w.over() {
			return
		}
		part(i)
	}
}

// over tells whether there is more than a text may have.
func (w *writer) over() bool {
	return len(w.out) > api.MaxBytes
}
