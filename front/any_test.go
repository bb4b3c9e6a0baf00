package front_test

import (
	"fmt"
	"math/rand"
	"strings"
	"testing"

	"codicil/api"
	"codicil/front"
	"codicil/value"
)

// maker makes anything of chance.
type maker struct{ *rand.Rand }

func newMaker(seed int64) *maker { return &maker{rand.New(rand.NewSource(seed))} }

// pick is one of several.
func pick[T any](m *maker, l ...T) T { return l[m.Intn(len(l))] }

// statement is one, most times.
func (m *maker) statement() string {
	table := pick(m, "t", "t", "t", "u")
	key := pick(m, "a", "a", "b") + pick(m, " = ", " = ", " > ") + pick(m, "1", "2", "3", "4", "'x'")
	where := pick(m, "", " WHERE "+key, " WHERE "+key, " WHERE "+key)
	switch m.Intn(16) {
	case 0:
		return "CREATE TABLE " + pick(m, "t", "u", "w")
	case 1:
		return "CREATE INDEX ON " + table + " (" + pick(m, "a", "b", "c") + ")"
	case 2, 3, 4, 5:
		return "INSERT INTO " + table + " {" + pick(m, "a: ", "b: ") + pick(m, "1", "2", "3", "'it''s'", "[1, {x: 'é'}]", "NULL") + "}"
	case 6:
		return pick(m, "INSERT INTO t 5", "nothing", "", " ", "SELECT * FROM x", "'\xff'", "SELECT b + 9223372036854775807 AS x FROM t")
	case 7, 8, 9:
		return "UPDATE " + table + " SET " + pick(m, "a", "b", "c") + " = " + pick(m, "1", "2", "3", "b", "c") + where
	case 10:
		return "DELETE FROM " + table + " WHERE " + key
	case 11:
		return "SELECT * FROM HISTORY(" + table + ")"
	}
	return "SELECT " + pick(m, "*", "a AS a, b AS x") + " FROM " + table + where + pick(m, "", " ORDER BY a DESC")
}

// line is one that means something, most times; last is how many sessions were begun since the last crash, or so.
func (m *maker) line(last *int) string {
	id := max(0, pick(m, *last, *last, *last, *last-1, *last-1, *last-2, m.Intn(6)))
	switch n := m.Intn(40); {
	case n < 6:
		*last++
		return "begin"
	case n < 29:
		return fmt.Sprint("exec ", id, " ", m.statement())
	case n < 33:
		return fmt.Sprint("commit ", id)
	case n == 33:
		return fmt.Sprint("abort ", id)
	case n == 34:
		return fmt.Sprint("fuse ", m.Intn(5))
	case n == 35:
		*last = 0
		return fmt.Sprint("crash ", pick(m, 0, 1, 100, 250, most))
	case n == 36:
		return "tip"
	}
	return fmt.Sprint("prove ", m.Intn(5), " ", m.Intn(4))
}

// story is a script of some lines, which begins with a few that come to something, most times.
func (m *maker) story(n int) string {
	first := "begin\nexec 1 CREATE TABLE t\nexec 1 CREATE INDEX ON t (a)\nexec 1 INSERT INTO t {a: 1, b: 2}\ncommit 1\n"
	last := 1
	return pick(m, first, first, first, first, "") + strings.Join(many(n, func(int) string { return m.line(&last) + "\n" }), "")
}

// 20.2, 20.6: any scripts, in rooms of any size.
func TestAnyRuns(t *testing.T) {
	m := newMaker(202)
	count := map[string]int{}
	for range 250 {
		script := m.story(m.Intn(60))
		room := pick(m, 0, 200, 500, 1000, 2000, api.MaxDisk)
		got := isRun(t, room, script)
		if got.Why != api.OK {
			t.Fatalf("Run(%s): error %d", show(script), got.Why)
		}
		for line := range strings.Lines(got.Text) {
			word, _, _ := strings.Cut(strings.TrimSuffix(line, "\n"), " ")
			count[word]++
		}
		if strings.Count(got.Text, "\n") != strings.Count(script, "\n") {
			t.Fatalf("20.6: %s comes to %s", show(script), show(got.Text))
		}
		more := isRun(t, room, script+m.story(m.Intn(9)))
		if !strings.HasPrefix(more.Text, got.Text) {
			t.Fatalf("20.6: %s, with more behind %s", show(got.Text), show(more.Text))
		}
	}
	for _, name := range []string{"ok", "state", "unknown", "full", "down", "syntax", "name", "type", "twice", "conflict", "utf", "over", "range"} {
		if count[name] < 3 {
			t.Errorf("met %v", count)
		}
	}
}

// spoil is a script in which a byte or so is not as it was.
func (m *maker) spoil(s string) string {
	if s == "" {
		return pick(m, "\n", "x", "")
	}
	i := m.Intn(len(s))
	switch m.Intn(6) {
	case 0:
		return s[:i] + s[i+1:]
	case 1:
		return s[:i] + s[i:i+1] + s[i:]
	case 2:
		return s[:i]
	case 3:
		return s[:i] + pick(m, " ", "\n", "0", "1", "-", "+", "x", "\r", "\x00", "\xff", "\t") + s[i:]
	case 4:
		return s[:i] + string([]byte{byte(m.Intn(256))}) + s[i+1:]
	}
	return s[i:] + s[:i]
}

// 20.1: any scripts, spoiled ones, too.
func TestAnyScripts(t *testing.T) {
	m := newMaker(201)
	right, wrong := 0, 0
	for range 4000 {
		script := m.story(m.Intn(8))
		for range m.Intn(3) {
			script = m.spoil(script)
		}
		got := isRead(t, script)
		if got.Why != api.OK {
			wrong++
			continue
		}
		right++
		if back := isPrinted(t, got.Orders); back != (print{Text: script}) {
			t.Fatalf("%s is printed as %s", show(script), show(back))
		}
	}
	if right < 1000 || wrong < 1000 {
		t.Errorf("%d were scripts, %d not", right, wrong)
	}
}

// order is one that is right, most times.
func (m *maker) order() api.Order {
	o := api.Order{Kind: api.OrderKind(1 + m.Intn(8))}
	n := func() int { return pick(m, 0, 1, 9, 10, m.Intn(most), most) }
	switch o.Kind {
	case api.OrderBegin, api.OrderTip:
	case api.OrderExec:
		o.Id, o.Text = n(), pick(m, "", " ", "x", m.statement(), xs(1024), "\xff\r")
	case api.OrderProve:
		o.Id, o.Index = n(), n()
	default:
		o.Id = n()
	}
	switch m.Intn(40) {
	case 0:
		o.Kind = api.OrderKind(m.Intn(11))
	case 1:
		o.Id = pick(m, -1, 0, 1, most+1)
	case 2:
		o.Index = pick(m, -1, 0, 1, most+1)
	case 3:
		o.Text = pick(m, "", "x", "\n", xs(1025))
	}
	return o
}

// 20.1, 20.4: any orders.
func TestAnyOrders(t *testing.T) {
	m := newMaker(204)
	right, wrong := 0, 0
	for range 4000 {
		l := many(m.Intn(12), func(int) api.Order { return m.order() })
		got := isPrinted(t, l)
		if got.Why != api.OK {
			wrong++
			continue
		}
		right++
		if back := isRead(t, got.Text); !same(back, read{Orders: l}) {
			t.Fatalf("20.4: %s is read as %s", show(l), show(back))
		}
	}
	if right < 1000 || wrong < 500 {
		t.Errorf("%d were right, %d not", right, wrong)
	}
}

// value is any one, of each kind and of none.
func (m *maker) value(depth int) api.Value {
	text := func() string {
		return strings.Join(many(m.Intn(3), func(int) string {
			return pick(m, "a", "b", "'", `\`, ", ", ": ", "\x00", "é", "[", "}", "x", "27", string([]byte{byte(m.Intn(256))}))
		}), "")
	}
	kinds := 5
	if depth > 0 {
		kinds = 7
	}
	v := api.Value{Kind: api.Kind(m.Intn(kinds))}
	switch v.Kind {
	case api.KindBool:
		v.B = m.Intn(2) == 0
	case api.KindInt:
		v.N = pick(m, int64(m.Intn(3))-1, int64(m.Uint64()))
	case api.KindText, api.KindBlob:
		v.S = text()
	case api.KindList:
		v.List = many(m.Intn(3), func(int) api.Value { return m.value(depth - 1) })
	case api.KindStruct:
		v.Fields = many(m.Intn(3), func(int) api.Field { return api.Field{Name: text(), Value: m.value(depth - 1)} })
	}
	if m.Intn(60) == 0 {
		v.Kind = api.Kind(m.Intn(256))
	}
	return v
}

// 20.1, 20.5: any values.
func TestAnyValues(t *testing.T) {
	m := newMaker(205)
	seen := map[string]api.Value{}
	for range 30000 {
		v := m.value(m.Intn(4))
		s := front.Show(v)
		if s != saidShow(v) {
			t.Fatalf("Show(%s) = %s, not %s", show(v), s, saidShow(v))
		}
		if value.Check(v) != api.OK {
			continue
		}
		if other, is := seen[s]; is && !value.Same(v, other) {
			t.Fatalf("20.5: %s and %s are both shown as %s", show(v), show(other), s)
		}
		seen[s] = v
	}
	if len(seen) < 3000 {
		t.Errorf("%d values", len(seen))
	}
}
