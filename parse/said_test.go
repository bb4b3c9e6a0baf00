package parse_test

import (
	"fmt"
	"math/rand"
	"slices"
	"strings"
	"testing"

	"codicil/api"
	"codicil/lex"
)

// changed is a text with a token or two taken away, doubled, cut off or put in another one's place.
func (m *maker) changed(s string) string {
	tokens, why, _ := lex.Lex(s)
	if why != api.OK || len(tokens) == 0 {
		return s
	}
	var l []string
	for _, k := range tokens {
		text, _ := lex.Show(k)
		l = append(l, text)
	}
	others := append([]string{"a", "b", "n0", "7", "'x'", "=", "<=", "+", "-", "*", "(", ")", "[", "]", "{", "}", ",", ":", "."}, keys...)
	for range 1 + m.Intn(2) {
		i := m.Intn(len(l))
		switch m.Intn(6) {
		case 0:
			l = slices.Delete(l, i, i+1)
		case 1:
			l = slices.Insert(l, i, l[i])
		case 2:
			l = l[:i]
		case 3:
			l = slices.Insert(l, i, pick(m, others...))
		default:
			l[i] = pick(m, others...)
		}
		if len(l) == 0 {
			return ""
		}
	}
	return strings.Join(l, " ")
}

// countsOf fails, unless all these errors were among those that were met.
func countsOf(t *testing.T, met map[api.Errno]int, all ...api.Errno) {
	t.Helper()
	for _, why := range all {
		if met[why] < 10 {
			t.Errorf("error %d was met %d times", why, met[why])
		}
	}
}

// 10.1: any texts of the grammar, and these with tokens changed.
func TestAnyTexts(t *testing.T) {
	m := &maker{Rand: rand.New(rand.NewSource(101))}
	met := map[api.Errno]int{}
	for range 3000 {
		m.room = m.Intn(60)
		s := m.derived("statement")
		met[isAsSaid(t, s)]++
		for range 3 {
			met[isAsSaid(t, m.changed(s))]++
		}
		if t.Failed() {
			return
		}
	}
	countsOf(t, met, api.OK, api.ErrSyntax, api.ErrTwice)
}

// 10.1: texts at the limits and about them, and these with tokens changed.
func TestAnyTextsAtTheLimits(t *testing.T) {
	m := &maker{Rand: rand.New(rand.NewSource(102))}
	met := map[api.Errno]int{}
	for range 700 {
		s := m.great()
		met[isAsSaid(t, s)]++
		for range 3 {
			met[isAsSaid(t, m.changed(s))]++
		}
		if t.Failed() {
			return
		}
	}
	countsOf(t, met, api.OK, api.ErrSyntax, api.ErrDepth, api.ErrTwice, api.ErrMany)
}

// great is a statement's text that is about as great as it may be.
func (m *maker) great() string {
	switch m.Intn(5) {
	case 0:
		l := m.greatNames()
		return "UPDATE t SET " + times(len(l), ", ", func(i int) string { return l[i] + " = " + m.smallExpr() })
	case 1:
		l := m.greatNames()
		return "SELECT " + times(len(l), ", ", func(i int) string { return m.smallExpr() + " AS " + l[i] }) + " FROM t"
	case 2:
		return "INSERT INTO t " + m.greatExpr()
	}
	return where(m.greatExpr())
}

func (m *maker) smallExpr() string {
	return pick(m, "1", "a", "-b", "(c)", "'x'", "[1]", "NOT a", "a + 1")
}

// greatNames are about MaxParts, of which one may be there twice.
func (m *maker) greatNames() []string {
	l := names(63 + m.Intn(3))
	if m.Intn(3) == 0 {
		l[len(l)-1-m.Intn(2)] = pick(m, "n0", "n1", "N0")
	}
	return l
}

func (m *maker) greatExpr() string {
	around := func(n int, s string) string {
		for range n {
			s = pick(m, "("+s+")", "["+s+"]", "{a: "+s+"}", "-"+"("+s+")", "NOT "+"("+s+")"+" = a")
		}
		return s
	}
	chain := func(n int) string {
		return times(n, pick(m, " + ", " * ", " AND ", " OR ", " - "), func(int) string { return pick(m, "1", "2", "TRUE") })
	}
	switch m.Intn(6) {
	case 0:
		return "[" + times(63+m.Intn(3), ", ", same("1")) + pick(m, "", "]", ",]", ", (]", "] = [")
	case 1:
		l := m.greatNames()
		return "{" + times(len(l), ", ", func(i int) string { return l[i] + ": 1" }) + "}"
	case 2:
		return chain(63+m.Intn(3)) + pick(m, "", " + 1", " IS NULL", " IS NOT NULL", " 1", " )")
	case 3:
		return around(7+m.Intn(8), pick(m, "a", "[]", "{}", "-1", "NOT a", "a IS NOT NULL"))
	case 4:
		l := times(30+m.Intn(30), ", ", same("1"))
		return "[" + l + ", " + chain(20+m.Intn(30)) + ", " + times(m.Intn(40), ", ", same("TRUE")) + "]"
	}
	return around(m.Intn(5), "["+times(62+m.Intn(4), ", ", same("1"))+", "+around(9+m.Intn(4), "2")+"]")
}

// 10.1: all short rows of tokens behind the beginning of a statement.
func TestAllShortRows(t *testing.T) {
	tokens := strings.Fields("a 7 'x' NULL TRUE NOT AND OR IS = < + - * ( ) [ ] { } , : . AS FROM WHERE ORDER DESC")
	few := strings.Fields("a 7 NOT OR IS NULL = - * ( ) ,")
	var all func(s string, l []string, more int)
	all = func(s string, l []string, more int) {
		isAsSaid(t, s)
		if more > 0 && !t.Failed() {
			for _, k := range l {
				all(s+" "+k, l, more-1)
			}
		}
	}
	for _, s := range []string{"", "CREATE", "CREATE INDEX ON t", "INSERT INTO", "DELETE FROM t", "UPDATE t SET a =", "SELECT *", "SELECT * FROM t ORDER", "SELECT * FROM", "DELETE FROM t WHERE {", "DELETE FROM t WHERE a"} {
		all(s, append(tokens, "CREATE", "SET", "TABLE", "INDEX", "ON", "INTO", "BY", "HISTORY"), 2)
	}
	all("DELETE FROM t WHERE", few, 4)
}

// The grammar of these tests is the chapter's: it knows what is said there in so many words.
func TestGrammar(t *testing.T) {
	for s, want := range map[string]int{
		"": 0, "a": 0, "CREATE": 1, "CREATE TABLE t": -1, "CREATE TABLE t t": 3, "SELECT * FROM t": -1, "SELECT a FROM t": 2, "DELETE FROM t WHERE a = b = c": 7,
		"DELETE FROM t WHERE a.0.b IS NOT NULL": -1, "DELETE FROM t WHERE 0.a": 5, "DELETE FROM t WHERE [1,]": 7, "DELETE FROM t WHERE - NOT a": 5,
	} {
		l, _, _ := lex.Lex(s)
		if got := wrongAt(l); got != want {
			t.Errorf("%s: %d, not %d", fmt.Sprint(s), got, want)
		}
	}
}
