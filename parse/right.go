package parse

import (
	"slices"
	"strconv"
	"strings"
	"unicode/utf8"

	"codicil/api"
	"codicil/lex"
)

// isName tells whether a text is a word that is no keyword.
func isName(s string) bool {
	_, why := lex.Show(api.Token{Kind: api.TokenWord, Text: s})
	return why == api.OK
}

// isNumber tells whether a text is a number as it is written.
func isNumber(s string) bool {
	n, err := strconv.ParseUint(s, 10, 63)
	return err == nil && strconv.FormatUint(n, 10) == s
}

// areNames tells whether each is one, and none is there twice.
func areNames(l []string) bool {
	for i, name := range l {
		if !isName(name) || slices.Contains(l[:i], name) {
			return false
		}
	}
	return true
}

func rightStep(s api.Step) bool {
	switch s.Kind {
	case api.StepInt:
		return s.N >= 0 && s.Text == ""
	case api.StepText:
		return s.N == 0 && len(s.Text) <= api.MaxText && utf8.ValidString(s.Text)
	case api.StepPath:
		return s.N == 0 && isPath(s.Text)
	case api.StepList:
		return s.N >= 0 && s.N <= api.MaxParts && s.Text == ""
	case api.StepStruct:
		return s.N >= 0 && s.N <= api.MaxParts && haveNames(s.Text, int(s.N))
	}
	return s.Kind > api.StepNone && s.Kind < api.StepCount && s.N == 0 && s.Text == ""
}

// takes is how many values a right step takes.
func takes(s api.Step) int {
	switch {
	case s.Kind == api.StepList || s.Kind == api.StepStruct:
		return int(s.N)
	case s.Kind >= api.StepAdd:
		return 2
	case s.Kind >= api.StepNeg:
		return 1
	}
	return 0
}

func isPath(s string) bool {
	if len(s) > api.MaxText {
		return false
	}
	for i, part := range strings.Split(s, ".") {
		if !isName(part) && (i == 0 || !isNumber(part)) {
			return false
		}
	}
	return true
}

// haveNames tells whether a text is so many names with a comma between.
func haveNames(s string, many int) bool {
	if many == 0 {
		return s == ""
	}
	// They are counted first, since anyone may make a text of a great many commas.
	return strings.Count(s, ",") == many-1 && areNames(strings.Split(s, ","))
}

func rightStmt(x api.Stmt) bool {
	if !isName(x.Table) || x.Kind != api.StmtSelect && (x.History || x.Desc) {
		return false
	}
	noField, noItems, noExpr := x.Field == "", len(x.Items) == 0, len(x.Expr) == 0
	switch x.Kind {
	case api.StmtTable:
		return noField && noItems && noExpr
	case api.StmtIndex:
		return isName(x.Field) && noItems && noExpr
	case api.StmtInsert:
		return noField && noItems && Right(x.Expr) && Closed(x.Expr)
	case api.StmtUpdate:
		return noField && !noItems && rightItems(x.Items) && rightCondition(x.Expr)
	case api.StmtDelete:
		return noField && noItems && rightCondition(x.Expr)
	case api.StmtSelect:
		return (isName(x.Field) || noField && !x.Desc) && rightItems(x.Items) && rightCondition(x.Expr)
	}
	return false
}

func rightItems(l []api.Item) bool {
	if len(l) > api.MaxParts {
		return false
	}
	var names []string
	for _, item := range l {
		if !Right(item.Expr) {
			return false
		}
		names = append(names, item.Name)
	}
	return areNames(names)
}

// rightCondition tells whether an expression is right, or there is none.
func rightCondition(l []api.Step) bool {
	return len(l) == 0 || Right(l)
}
