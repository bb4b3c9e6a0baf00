package front

import (
	"strconv"
	"strings"

	"codicil/api"
)

// Show is a value's text, whatever the value is.
func Show(v api.Value) string {
	var out strings.Builder
	show(&out, v)
	return out.String()
}

func show(out *strings.Builder, v api.Value) {
	switch v.Kind {
	case api.KindNull:
		out.WriteString("null")
	case api.KindBool:
		out.WriteString(strconv.FormatBool(v.B))
	case api.KindInt:
		out.WriteString(strconv.FormatInt(v.N, 10))
	case api.KindText:
		quote(out, v.S)
	case api.KindBlob:
		out.WriteByte('x')
		quote(out, v.S)
	case api.KindList:
		between(out, '[', ']', v.List, show)
	case api.KindStruct:
		between(out, '{', '}', v.Fields, showField)
	default:
		out.WriteByte('?')
	}
}

func showField(out *strings.Builder, f api.Field) {
	quote(out, f.Name)
	out.WriteString(": ")
	show(out, f.Value)
}

// between shows parts, with a comma and a space between, and a sign at each end.
func between[T any](out *strings.Builder, first, last byte, parts []T, one func(*strings.Builder, T)) {
	out.WriteByte(first)
	for i, p := range parts {
		if i > 0 {
			out.WriteString(", ")
		}
		one(out, p)
	}
	out.WriteByte(last)
}

func quote(out *strings.Builder, s string) {
	const hex = "0123456789abcdef"
	out.WriteByte('\'')
	for i := range len(s) {
		b := s[i]
		if b < 0x20 || b > 0x7e || b == '\'' || b == '\\' {
			out.WriteByte('\\')
			out.WriteByte(hex[b>>4])
			out.WriteByte(hex[b&0xf])
			continue
		}
		out.WriteByte(b)
	}
	out.WriteByte('\'')
}
