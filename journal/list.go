package journal

import "codicil/api"

// list is that of parts, as values of one kind.
func list[T any](as func(T) api.Value, parts ...T) api.Value {
	v := api.Value{Kind: api.KindList}
	for _, part := range parts {
		v.List = append(v.List, as(part))
	}
	return v
}

func asItIs(v api.Value) api.Value { return v }

// asNumber is one's bits as an int.
func asNumber(n uint64) api.Value { return api.Value{Kind: api.KindInt, N: int64(n)} }

func asText(s string) api.Value { return api.Value{Kind: api.KindText, S: s} }

func asBlob(s string) api.Value { return api.Value{Kind: api.KindBlob, S: s} }
