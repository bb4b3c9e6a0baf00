package parse_test

import (
	"fmt"
	"reflect"
	"regexp"
	"slices"
	"strings"
	"testing"
	"unicode/utf8"
	"unsafe"

	"codicil/api"
	"codicil/parse"
)

// keys are the keywords.
var keys = strings.Fields("ALL AND AS BY CREATE DELETE DESC FALSE FROM HISTORY IN INDEX INSERT INTO IS NOT NULL ON OR ORDER SELECT SET TABLE TRUE UPDATE WHERE")

func xs(n int) string { return strings.Repeat("x", n) }

func step(kind api.StepKind) api.Step { return api.Step{Kind: kind} }

func whole(n int64) api.Step { return api.Step{Kind: api.StepInt, N: n} }

func text(s string) api.Step { return api.Step{Kind: api.StepText, Text: s} }

func path(s string) api.Step { return api.Step{Kind: api.StepPath, Text: s} }

func list(n int) api.Step { return api.Step{Kind: api.StepList, N: int64(n)} }

// structOf is a step with names, which have a comma between.
func structOf(n int, names string) api.Step {
	return api.Step{Kind: api.StepStruct, N: int64(n), Text: names}
}

func steps(l ...api.Step) []api.Step { return l }

// names are n that are all unlike.
func names(n int) []string {
	var out []string
	for i := range n {
		out = append(out, fmt.Sprint("n", i))
	}
	return out
}

// times are n pieces, made by their places, with something between.
func times(n int, between string, made func(i int) string) string {
	var out []string
	for i := range n {
		out = append(out, made(i))
	}
	return strings.Join(out, between)
}

// same is a text, whatever the place.
func same(s string) func(int) string { return func(int) string { return s } }

// where is a statement with a condition.
func where(expr string) string { return "DELETE FROM t WHERE " + expr }

// show is what a failure tells of something that may be long.
func show(x any) string {
	s := fmt.Sprintf("%q", fmt.Sprint(x))
	return s[:min(len(s), 400)]
}

func sameItems(a, b []api.Item) bool {
	return slices.EqualFunc(a, b, func(a, b api.Item) bool { return a.Name == b.Name && slices.Equal(a.Expr, b.Expr) })
}

// sameStmts tells whether all fields are alike; nil and empty lists are.
func sameStmts(a, b api.Stmt) bool {
	return a.Kind == b.Kind && a.Table == b.Table && a.Field == b.Field && a.History == b.History && a.Desc == b.Desc &&
		sameItems(a.Items, b.Items) && slices.Equal(a.Expr, b.Expr)
}

// reads fails, unless a text is just that statement.
func reads(t *testing.T, s string, want api.Stmt) {
	t.Helper()
	if x, why, at := parse.Parse(s); why != api.OK || at != 0 || !sameStmts(x, want) {
		t.Errorf("Parse(%s): %s, error %d at %d, not %s", show(s), show(x), why, at, show(want))
	}
}

// refuses fails, unless a text has just that error at that place.
func refuses(t *testing.T, s string, want api.Errno, place int) {
	t.Helper()
	if x, why, at := parse.Parse(s); why != want || at != place || !sameStmts(x, api.Stmt{}) {
		t.Errorf("Parse(%s): %s, error %d at %d, not %d at %d", show(s), show(x), why, at, want, place)
	}
}

// fine fails, unless a text is a statement, which is right.
func fine(t *testing.T, s string) api.Stmt {
	t.Helper()
	x, why, at := parse.Parse(s)
	if why != api.OK || at != 0 || parse.Check(x) != api.OK {
		t.Errorf("Parse(%s): %s, error %d at %d", show(s), show(x), why, at)
	}
	return x
}

// isAsSaid fails, unless Parse answers of a text what the chapter says, which it tells.
func isAsSaid(t *testing.T, s string) api.Errno {
	t.Helper()
	want, why, place := said(s)
	if why == api.OK {
		reads(t, s, want)
	} else {
		refuses(t, s, why, place)
	}
	return why
}

// What follows are the chapter's words of what is right to the letter, by other means than the package's.

var (
	nameForm   = regexp.MustCompile(`^[A-Za-z_][A-Za-z0-9_]{0,63}$`)
	numberForm = regexp.MustCompile(`^(0|[1-9][0-9]{0,18})$`)
)

func isName(s string) bool {
	return nameForm.MatchString(s) && !slices.Contains(keys, strings.ToUpper(s))
}

// isNumber tells whether a text is a number of at most 2^63 - 1: of 19 digits they are ordered as texts are.
func isNumber(s string) bool {
	return numberForm.MatchString(s) && (len(s) < 19 || s <= "9223372036854775807")
}

func areNames(l []string) bool {
	seen := map[string]int{}
	for _, s := range l {
		seen[s]++
		if !isName(s) || seen[s] > 1 {
			return false
		}
	}
	return true
}

// saidTakes is Takes of any step.
func saidTakes(s api.Step) (int, bool) {
	bare := s.N == 0 && s.Text == ""
	switch s.Kind {
	case api.StepNull, api.StepTrue, api.StepFalse:
		return 0, bare
	case api.StepInt:
		return 0, s.N >= 0 && s.Text == ""
	case api.StepText:
		return 0, s.N == 0 && utf8.ValidString(s.Text) && len(s.Text) <= 1024
	case api.StepPath:
		first, rest, more := strings.Cut(s.Text, ".")
		is := s.N == 0 && len(s.Text) <= 1024 && isName(first)
		for more {
			first, rest, more = strings.Cut(rest, ".")
			is = is && (isName(first) || isNumber(first))
		}
		return 0, is
	case api.StepList, api.StepStruct:
		is := s.N >= 0 && s.N <= 64
		if s.Kind == api.StepList {
			is = is && s.Text == ""
		} else if s.N == 0 {
			is = is && s.Text == ""
		} else {
			l := strings.Split(s.Text, ",")
			is = is && len(l) == int(s.N) && areNames(l)
		}
		if !is {
			return 0, false
		}
		return int(s.N), true
	case api.StepNeg, api.StepNot, api.StepIsNull:
		if bare {
			return 1, true
		}
	case api.StepAdd, api.StepSub, api.StepMul, api.StepEqual, api.StepUnlike, api.StepLess, api.StepMost, api.StepMore, api.StepLeast, api.StepAnd, api.StepOr:
		if bare {
			return 2, true
		}
	}
	return 0, false
}

func isRight(l []api.Step) bool {
	left := 0
	for _, s := range l {
		n, is := saidTakes(s)
		if !is || left < n {
			return false
		}
		left = left - n + 1
	}
	return len(l) >= 1 && len(l) <= 128 && left == 1
}

func isClosed(l []api.Step) bool {
	for _, s := range l {
		if s.Kind == api.StepPath {
			return false
		}
	}
	return true
}

func isRightStmt(x api.Stmt) bool {
	if !isName(x.Table) {
		return false
	}
	var names []string
	items := len(x.Items) <= 64
	for _, item := range x.Items {
		names = append(names, item.Name)
		items = items && isRight(item.Expr)
	}
	items = items && areNames(names)
	expr := len(x.Expr) == 0 || isRight(x.Expr)
	// What is left of the statement, all that its kind has being away, is zero.
	rest := x
	rest.Kind, rest.Table = 0, ""
	is := false
	switch x.Kind {
	case api.StmtTable:
		is = true
	case api.StmtIndex:
		is = isName(x.Field)
		rest.Field = ""
	case api.StmtInsert:
		is = isRight(x.Expr) && isClosed(x.Expr)
		rest.Expr = nil
	case api.StmtUpdate:
		is = items && len(x.Items) > 0 && expr
		rest.Items, rest.Expr = nil, nil
	case api.StmtDelete:
		is = expr
		rest.Expr = nil
	case api.StmtSelect:
		is = items && expr && (x.Field == "" && !x.Desc || isName(x.Field))
		rest = api.Stmt{}
	}
	return is && sameStmts(rest, api.Stmt{})
}

// saidShow is the text of a right expression, read from its end, and how many steps it has.
func saidShow(l []api.Step) (string, int) {
	last := l[len(l)-1]
	n, _ := saidTakes(last)
	size := 1
	parts := make([]string, n)
	for i := n - 1; i >= 0; i-- {
		part, many := saidShow(l[:len(l)-size])
		parts[i] = part
		size += many
	}
	signs := map[api.StepKind]string{api.StepAdd: "+", api.StepSub: "-", api.StepMul: "*", api.StepEqual: "=", api.StepUnlike: "<>", api.StepLess: "<", api.StepMost: "<=", api.StepMore: ">", api.StepLeast: ">=",
		api.StepAnd: "AND", api.StepOr: "OR"}
	switch last.Kind {
	case api.StepNull:
		return "NULL", 1
	case api.StepTrue:
		return "TRUE", 1
	case api.StepFalse:
		return "FALSE", 1
	case api.StepInt:
		return fmt.Sprint(last.N), 1
	case api.StepText:
		return "'" + strings.ReplaceAll(last.Text, "'", "''") + "'", 1
	case api.StepPath:
		return last.Text, 1
	case api.StepList:
		return "[" + strings.Join(parts, ", ") + "]", size
	case api.StepStruct:
		for i := range parts {
			parts[i] = strings.Split(last.Text, ",")[i] + ": " + parts[i]
		}
		return "{" + strings.Join(parts, ", ") + "}", size
	case api.StepNeg:
		return "(-" + parts[0] + ")", size
	case api.StepNot:
		return "(NOT " + parts[0] + ")", size
	case api.StepIsNull:
		return "(" + parts[0] + " IS NULL)", size
	}
	return "(" + parts[0] + " " + signs[last.Kind] + " " + parts[1] + ")", size
}

// saidPrint is the text of a right statement.
func saidPrint(x api.Stmt) string {
	expr := func(l []api.Step) string {
		s, _ := saidShow(l)
		return s
	}
	where := ""
	if x.Kind != api.StmtInsert && len(x.Expr) > 0 {
		where = " WHERE " + expr(x.Expr)
	}
	items := ""
	for i, item := range x.Items {
		if i > 0 {
			items += ", "
		}
		if x.Kind == api.StmtUpdate {
			items += item.Name + " = " + expr(item.Expr)
		} else {
			items += expr(item.Expr) + " AS " + item.Name
		}
	}
	switch x.Kind {
	case api.StmtTable:
		return "CREATE TABLE " + x.Table
	case api.StmtIndex:
		return "CREATE INDEX ON " + x.Table + " (" + x.Field + ")"
	case api.StmtInsert:
		return "INSERT INTO " + x.Table + " " + expr(x.Expr)
	case api.StmtUpdate:
		return "UPDATE " + x.Table + " SET " + items + where
	case api.StmtDelete:
		return "DELETE FROM " + x.Table + where
	}
	from, order := x.Table, ""
	if x.History {
		from = "HISTORY(" + x.Table + ")"
	}
	if x.Field != "" {
		order = " ORDER BY " + x.Field
	}
	if x.Desc {
		order += " DESC"
	}
	if len(x.Items) == 0 {
		items = "*"
	}
	return "SELECT " + items + " FROM " + from + where + order
}

// twin is a copy that shares no lists.
func twin(x api.Stmt) api.Stmt {
	x.Expr = slices.Clone(x.Expr)
	x.Items = slices.Clone(x.Items)
	for i := range x.Items {
		x.Items[i].Expr = slices.Clone(x.Items[i].Expr)
	}
	return x
}

// lent is a text whose bytes can be changed behind its back.
func lent(s string) (string, func()) {
	b := []byte(s)
	return unsafe.String(&b[0], len(b)), func() {
		for i := range b {
			b[i] = '!'
		}
	}
}

// span is a piece of memory.
type span struct{ from, to uintptr }

// spans are the pieces of memory in which texts and lists of x lie.
func spans(x reflect.Value) []span {
	var out []span
	switch x.Kind() {
	case reflect.String:
		if x.Len() > 0 {
			from := uintptr(x.UnsafePointer())
			out = append(out, span{from, from + uintptr(x.Len())})
		}
	case reflect.Slice:
		if x.Cap() > 0 {
			from := x.Pointer()
			out = append(out, span{from, from + uintptr(x.Cap())*x.Type().Elem().Size()})
		}
		for i := range x.Len() {
			out = append(out, spans(x.Index(i))...)
		}
	case reflect.Struct:
		for i := range x.NumField() {
			out = append(out, spans(x.Field(i))...)
		}
	}
	return out
}

// apart fails, if an answer shares memory with itself or with one of the others.
func apart(t *testing.T, answer any, others ...any) {
	t.Helper()
	own := spans(reflect.ValueOf(answer))
	var all []span
	for _, o := range others {
		all = append(all, spans(reflect.ValueOf(o))...)
	}
	for i, a := range own {
		for _, b := range append(all[:len(all):len(all)], own[i+1:]...) {
			if a.from < b.to && b.from < a.to {
				t.Fatal("shared memory in", show(answer))
			}
		}
	}
}
