package parse

import (
	"strconv"
	"strings"

	"codicil/api"
	"codicil/lex"
)

// operators are the signs and keywords that stand between what they take.
var operators = [...]struct {
	text string
	kind api.StepKind
}{
	{"+", api.StepAdd}, {"-", api.StepSub}, {"*", api.StepMul},
	{"=", api.StepEqual}, {"<>", api.StepUnlike}, {"<", api.StepLess}, {"<=", api.StepMost}, {">", api.StepMore}, {">=", api.StepLeast},
	{"AND", api.StepAnd}, {"OR", api.StepOr},
}

// kindOf is what an operator does.
func kindOf(text string) api.StepKind {
	for _, o := range operators {
		if o.text == text {
			return o.kind
		}
	}
	return api.StepNone
}

// operatorOf is what stands between the two that a step takes.
func operatorOf(kind api.StepKind) string {
	for _, o := range operators {
		if o.kind == kind {
			return o.text
		}
	}
	return ""
}

// stepText is the text of a right step, and of what it takes.
func stepText(s api.Step, parts []string) string {
	switch s.Kind {
	case api.StepNull:
		return "NULL"
	case api.StepTrue:
		return "TRUE"
	case api.StepFalse:
		return "FALSE"
	case api.StepInt:
		return strconv.FormatInt(s.N, 10)
	case api.StepText:
		text, _ := lex.Show(api.Token{Kind: api.TokenText, Text: s.Text})
		return text
	case api.StepPath:
		return s.Text
	case api.StepList:
		return "[" + strings.Join(parts, ", ") + "]"
	case api.StepStruct:
		return "{" + strings.Join(fieldTexts(s.Text, parts), ", ") + "}"
	case api.StepNeg:
		return "(-" + parts[0] + ")"
	case api.StepNot:
		return "(NOT " + parts[0] + ")"
	case api.StepIsNull:
		return "(" + parts[0] + " IS NULL)"
	}
	return "(" + parts[0] + " " + operatorOf(s.Kind) + " " + parts[1] + ")"
}

// fieldTexts are a struct's fields, their names with a comma between.
func fieldTexts(names string, parts []string) []string {
	var out []string
	for i, name := range strings.Split(names, ",")[:len(parts)] {
		out = append(out, name+": "+parts[i])
	}
	return out
}

// words are what a right statement's text has, with a space between.
func words(x api.Stmt) []string {
	switch x.Kind {
	case api.StmtTable:
		return []string{"CREATE TABLE", x.Table}
	case api.StmtIndex:
		return []string{"CREATE INDEX ON", x.Table, "(" + x.Field + ")"}
	case api.StmtInsert:
		return []string{"INSERT INTO", x.Table, shown(x.Expr)}
	case api.StmtUpdate:
		return append([]string{"UPDATE", x.Table, "SET", sets(x.Items)}, condition(x.Expr)...)
	case api.StmtDelete:
		return append([]string{"DELETE FROM", x.Table}, condition(x.Expr)...)
	}
	out := append([]string{"SELECT", what(x.Items), "FROM", from(x)}, condition(x.Expr)...)
	return append(out, order(x)...)
}

// shown is the text of a right expression.
func shown(l []api.Step) string {
	var texts []string
	for _, s := range l {
		first := len(texts) - takes(s)
		texts = append(texts[:first], stepText(s, texts[first:]))
	}
	return texts[0]
}

func sets(l []api.Item) string {
	var out []string
	for _, item := range l {
		out = append(out, item.Name+" = "+shown(item.Expr))
	}
	return strings.Join(out, ", ")
}

// what is what is selected: all, if there are no items.
func what(l []api.Item) string {
	if len(l) == 0 {
		return "*"
	}
	var out []string
	for _, item := range l {
		out = append(out, shown(item.Expr)+" AS "+item.Name)
	}
	return strings.Join(out, ", ")
}

func from(x api.Stmt) string {
	if x.History {
		return "HISTORY(" + x.Table + ")"
	}
	return x.Table
}

func condition(l []api.Step) []string {
	if len(l) == 0 {
		return nil
	}
	return []string{"WHERE", shown(l)}
}

func order(x api.Stmt) []string {
	switch {
	case x.Field == "":
		return nil
	case x.Desc:
		return []string{"ORDER BY", x.Field, "DESC"}
	}
	return []string{"ORDER BY", x.Field}
}
