package journal

import (
	"unicode/utf8"

	"codicil/api"
	"codicil/bin"
	"codicil/value"
)

// RevText is a revision's text.
func RevText(r api.Rev) (string, api.Errno) {
	if why := checkRev(r); why != api.OK {
		return "", why
	}
	s, why := bin.Write(list(asItIs,
		asNumber(uint64(r.Kind)), asText(r.Table), asNumber(r.Doc), asNumber(r.Version), r.Value))
	// A value that is as deep as may be is too deep inside of the list: such a text, too, is just too long.
	if why != api.OK || len(s) > api.MaxText {
		return "", api.ErrLong
	}
	return s, api.OK
}

// checkRev tells why a revision is not right.
func checkRev(r api.Rev) api.Errno {
	switch {
	case r.Kind <= api.RevNone || r.Kind >= api.RevCount:
		return api.ErrType
	case r.Table == "" || len(r.Table) > api.MaxText:
		return api.ErrLong
	case !utf8.ValidString(r.Table):
		return api.ErrUtf
	case r.Doc > mostOf(r.Kind) || r.Version > mostOf(r.Kind):
		return api.ErrRange
	}
	if why := value.Check(r.Value); why != api.OK {
		return why
	}
	if r.Value.Kind != valueOf(r.Kind) {
		return api.ErrType
	}
	return api.OK
}

// mostOf is the greatest Doc and Version of a kind: those of tables and indexes are no document's.
func mostOf(kind api.RevKind) uint64 {
	if kind == api.RevTable || kind == api.RevIndex {
		return 0
	}
	return most
}

// valueOf is what kind of value a revision has.
func valueOf(kind api.RevKind) api.Kind {
	switch kind {
	case api.RevIndex:
		return api.KindText
	case api.RevPut:
		return api.KindStruct
	}
	return api.KindNull
}

// revOf is what a revision's text says, if it is one.
func revOf(s string) api.Rev {
	v, _ := bin.Read(s)
	if len(v.List) != 5 {
		return api.Rev{}
	}
	return api.Rev{
		Kind:    api.RevKind(v.List[0].N),
		Table:   v.List[1].S,
		Doc:     uint64(v.List[2].N),
		Version: uint64(v.List[3].N),
		Value:   v.List[4],
	}
}
