package view_test

import (
	"math/rand"
	"strings"
	"testing"

	"codicil/api"
	"codicil/table"
	"codicil/view"
)

// maker makes anything of chance.
type maker struct{ *rand.Rand }

func newMaker(seed int64) *maker { return &maker{rand.New(rand.NewSource(seed))} }

// pick is one of several.
func pick[T any](m *maker, l ...T) T { return l[m.Intn(len(l))] }

// value is a small one, as a text says it.
func (m *maker) value() string {
	return pick(m, "1", "1", "2", "2", "3", "-1", "'x'", "'y'", "TRUE", "FALSE", "NULL", "[1]", "{d: 1}", "[[[[1]]]]", "[[[1]]]")
}

// doc is the text of a struct.
func (m *maker) doc() string {
	var fields []string
	for _, name := range []string{"c", "a", "b"} {
		if m.Intn(5) > 0 {
			fields = append(fields, name+": "+m.value())
		}
	}
	return "{" + strings.Join(fields, ", ") + "}"
}

// part is an expression that is no condition, most times.
func (m *maker) part() string {
	switch m.Intn(12) {
	case 0, 1, 2:
		return pick(m, "a", "b", "c")
	case 3:
		return pick(m, "doc", "version", "gone", "data.a", "data.b", "c.d", "c.0", "nothing")
	case 4:
		return pick(m, "a", "b", "version") + pick(m, " + ", " - ", " * ") + pick(m, "1", "a", "version")
	case 5:
		return pick(m, "[a, b]", "{x: a}", "[[[c]]]", "[[[[[c]]]]]")
	case 6:
		return "(" + m.condition(1) + ")"
	}
	return m.value()
}

// condition is one, most times.
func (m *maker) condition(deep int) string {
	if deep > 0 && m.Intn(2) == 0 {
		return m.condition(deep-1) + pick(m, " AND ", " AND ", " OR ") + m.condition(deep-1)
	}
	switch m.Intn(8) {
	case 0:
		return pick(m, "a", "b", "c", "doc") + " IS " + pick(m, "", "NOT ") + "NULL"
	case 1:
		return "NOT " + pick(m, "a", "b", "c") + " = " + m.value()
	case 2:
		return pick(m, "a", "b", "version", "doc") + pick(m, " < ", " <= ", " > ", " >= ", " <> ") + pick(m, "2", "a", "'x'")
	case 3:
		return pick(m, "TRUE", "FALSE", "gone", "NULL", "a", "c", "1 < 2")
	case 4:
		return m.part() + " = " + m.part()
	}
	return pick(m, "a", "a", "b", "c") + " = " + pick(m, "1", "2", "'x'", m.value())
}

// statement is one, most times.
func (m *maker) statement() string {
	name := pick(m, "t", "t", "t", "u", "u", "v")
	where := ""
	if m.Intn(4) > 0 {
		where = " WHERE " + m.condition(2)
	}
	switch m.Intn(20) {
	case 0:
		return "CREATE TABLE " + name
	case 1, 2:
		return "CREATE INDEX ON " + name + " (" + pick(m, "a", "b", "c") + ")"
	case 3:
		return "INSERT INTO " + name + " " + m.value()
	case 4, 5, 6, 7, 8:
		return "INSERT INTO " + name + " " + m.doc()
	case 9, 10, 11:
		return "UPDATE " + name + " SET " + m.items("", " = ") + where
	case 12:
		return "DELETE FROM " + name + where
	case 13:
		return pick(m, "SELECT", "a", "DELETE FROM t t", "SELECT a AS a, b AS a FROM t", "INSERT INTO t {a: a}", "'\xff'")
	}
	from, what := name, "*"
	if m.Intn(3) == 0 {
		from = "HISTORY(" + name + ")"
	}
	if m.Intn(2) == 0 {
		what = m.items(" AS ", "")
	}
	text := "SELECT " + what + " FROM " + from + where
	if m.Intn(2) == 0 {
		text += " ORDER BY " + pick(m, "a", "b", "c", "doc", "version", "data") + pick(m, "", " DESC")
	}
	return text
}

// items are expressions with names, either ahead or behind.
func (m *maker) items(as, is string) string {
	var out []string
	for _, name := range []string{"b", "c", "a"} {
		if m.Intn(2) == 0 {
			continue
		}
		if as != "" {
			out = append(out, m.part()+as+name)
		} else {
			out = append(out, name+is+m.part())
		}
	}
	if out == nil {
		return m.itemOf(as, is)
	}
	return strings.Join(out, ", ")
}

func (m *maker) itemOf(as, is string) string {
	if as != "" {
		return "a" + as + "a"
	}
	return "a" + is + "a"
}

// spoil is a view that may not be right any more; what is handed in stays as it was.
func (m *maker) spoil(v api.View) api.View {
	v = twin(v)
	switch m.Intn(8) {
	case 0:
		v.Base.Seq = pick[uint64](m, 0, 1<<62-1, 1<<62, 1<<63)
	case 1:
		v.Base.Last = pick[uint64](m, 0, 1<<62, 1<<62+1)
	case 2:
		v.Base.Tables = append(v.Base.Tables, api.Table{Name: pick(m, "t", "x", "")})
	case 3:
		v.Revs = append(v.Revs, v.Revs...)
	case 4:
		if len(v.Revs) > 0 {
			v.Revs = v.Revs[m.Intn(len(v.Revs)):]
		}
	case 5:
		if len(v.Revs) > 1 {
			i := m.Intn(len(v.Revs) - 1)
			v.Revs[i], v.Revs[i+1] = v.Revs[i+1], v.Revs[i]
		}
	case 6:
		v.Revs = append(v.Revs, pick(m, api.Rev{}, tableRev("t"), tableRev("y"), putRev("t", 1, 1, doc()), putRev("u", 3, 0, doc("a", number(1)))))
	case 7:
		if len(v.Revs) > 0 {
			r := &v.Revs[m.Intn(len(v.Revs))]
			r.Table, r.Doc, r.Version = pick(m, "t", "u", r.Table), r.Doc+uint64(m.Intn(2)), r.Version+uint64(m.Intn(2))
		}
	}
	return v
}

// fold is a view whose Base is what was there, now and then.
func (m *maker) fold(v api.View) api.View {
	if m.Intn(6) > 0 && len(v.Revs) < 60 {
		return v
	}
	s, _ := view.Now(v)
	return api.View{Base: s}
}

// 15.1, 15.2: any statements on any views, spoiled ones, too, with any fuel.
func TestAsSaid(t *testing.T) {
	m := newMaker(151)
	met, keys, sure := map[api.Errno]int{}, 0, map[bool]int{}
	for range 200 {
		v := doesAll(t, api.View{}, "CREATE TABLE t", "CREATE TABLE u", "CREATE INDEX ON t (a)")
		for range 40 {
			text, fuel := m.statement(), pick(m, m.Intn(30), m.Intn(300), api.MaxFuel, api.MaxFuel, api.MaxFuel, m.Intn(90)-10)
			got := asSaid(t, v, text, fuel)
			met[got.Why]++
			if len(got.Reads) > 0 && !got.Reads[0].All {
				keys++
			}
			bad := m.spoil(v)
			now, is := saidNow(bad)
			sure[is]++
			if s, why := view.Now(bad); (why == api.OK) != is || is && !same(s, now) || !is && (why != api.ErrState || !same(s, api.State{})) {
				t.Fatalf("Now(%s): %s, error %d", show(bad), show(s), why)
			}
			if why := view.Check(bad); (why == api.OK) != is {
				t.Fatalf("Check(%s): error %d", show(bad), why)
			}
			asSaid(t, bad, text, fuel)
			if got.Why == api.OK {
				v = m.fold(got.View)
			}
		}
		if why := table.Check(v.Base); why != api.OK {
			t.Fatalf("Check: error %d", why)
		}
	}
	for _, why := range []api.Errno{api.OK, api.ErrRange, api.ErrType, api.ErrUtf, api.ErrDepth, api.ErrSyntax, api.ErrName, api.ErrFuel, api.ErrTwice} {
		if met[why] < 5 || keys < 100 || sure[true] < 500 || sure[false] < 500 {
			t.Fatalf("met %v, %d keys, right %v", met, keys, sure)
		}
	}
}
