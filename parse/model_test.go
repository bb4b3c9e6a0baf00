package parse_test

import (
	"slices"
	"strconv"
	"strings"

	"codicil/api"
	"codicil/lex"
)

// said is Parse of any text, by the chapter's words: the grammar tells where it goes wrong, and a stack of operators what it is till there.
func said(s string) (api.Stmt, api.Errno, int) {
	tokens, why, at := lex.Lex(s)
	if why != api.OK {
		return api.Stmt{}, why, at
	}
	place := func(i int) int {
		if i == len(tokens) {
			return len(s)
		}
		return tokens[i].At
	}
	wrong := wrongAt(tokens)
	m := model{tokens: tokens}
	if wrong >= 0 {
		m.tokens = tokens[:wrong]
	}
	x := m.statement()
	for _, f := range m.found {
		if wrong >= 0 && f.at >= wrong {
			continue
		}
		return api.Stmt{}, f.why, place(f.at)
	}
	if wrong >= 0 {
		return api.Stmt{}, api.ErrSyntax, place(wrong)
	}
	if !isRightStmt(x) {
		return api.Stmt{}, api.ErrSyntax, 0
	}
	return x, api.OK, 0
}

// fault is an error, and the number of the token with which it shows.
type fault struct {
	at  int
	why api.Errno
}

// open is an operator that waits for what it takes, or a bracket that waits for its end.
type open struct {
	text  string
	ahead bool // NOT and - ahead
	parts int
	names []string
}

// model goes through tokens that may stand where they stand, and notes all else that is wrong with them.
type model struct {
	tokens []api.Token
	at     int
	found  []fault
	stack  []open
	steps  []api.Step
}

// note keeps what was found in order: by tokens, then as the chapter names the errors.
func (m *model) note(at int, why api.Errno) {
	order := []api.Errno{api.ErrDepth, api.ErrTwice, api.ErrMany}
	m.found = append(m.found, fault{at, why})
	slices.SortStableFunc(m.found, func(a, b fault) int {
		if a.at != b.at {
			return a.at - b.at
		}
		return slices.Index(order, a.why) - slices.Index(order, b.why)
	})
}

// token is the next one; none behind the last one.
func (m *model) token() api.Token {
	if m.at >= len(m.tokens) {
		return api.Token{}
	}
	return m.tokens[m.at]
}

// sign is the next token, if it is a keyword or a sign.
func (m *model) sign() string {
	if k := m.token(); k.Kind == api.TokenKey || k.Kind == api.TokenSign {
		return k.Text
	}
	return ""
}

// pass goes on behind the next token, and is its text.
func (m *model) pass() string {
	s := m.token().Text
	m.at++
	return s
}

// passes tells whether the next token is that keyword or sign, and goes on behind it then.
func (m *model) passes(sign string) bool {
	if m.sign() != sign {
		return false
	}
	m.at++
	return true
}

func (m *model) statement() api.Stmt {
	x := api.Stmt{}
	switch m.pass() + " " + m.sign() {
	case "CREATE TABLE":
		m.at++
		return api.Stmt{Kind: api.StmtTable, Table: m.pass()}
	case "CREATE INDEX":
		m.at += 2
		x = api.Stmt{Kind: api.StmtIndex, Table: m.pass()}
		m.at++
		x.Field = m.pass()
		return x
	case "INSERT INTO":
		m.at++
		return api.Stmt{Kind: api.StmtInsert, Table: m.pass(), Expr: m.expr()}
	case "DELETE FROM":
		m.at++
		return api.Stmt{Kind: api.StmtDelete, Table: m.pass(), Expr: m.where()}
	case "UPDATE ":
		x = api.Stmt{Kind: api.StmtUpdate, Table: m.pass()}
		for sign := "SET"; m.passes(sign); sign = "," {
			item := api.Item{Name: m.itemName(x.Items)}
			m.many(len(x.Items), m.at)
			m.at += 2
			item.Expr = m.expr()
			x.Items = append(x.Items, item)
		}
		x.Expr = m.where()
		return x
	}
	x.Kind = api.StmtSelect
	if !m.passes("*") {
		for more := true; more; more = m.passes(",") {
			m.many(len(x.Items), m.at)
			item := api.Item{Expr: m.expr()}
			m.at++
			item.Name = m.itemName(x.Items)
			m.at++
			x.Items = append(x.Items, item)
		}
	}
	m.at++
	if m.passes("HISTORY") {
		x.History = true
		m.at++
	}
	x.Table = m.pass()
	if x.History {
		m.at++
	}
	x.Expr = m.where()
	if m.passes("ORDER") {
		m.at++
		x.Field = m.pass()
		x.Desc = m.passes("DESC")
	}
	return x
}

// itemName is the next token, which stays, and is noted if it is an earlier one's name.
func (m *model) itemName(items []api.Item) string {
	name := m.token().Text
	for _, item := range items {
		if item.Name == name && m.at < len(m.tokens) {
			m.note(m.at, api.ErrTwice)
		}
	}
	return name
}

// many notes that one begins with a token though there are as many as may be.
func (m *model) many(there, at int) {
	if there == 64 && at < len(m.tokens) {
		m.note(at, api.ErrMany)
	}
}

func (m *model) where() []api.Step {
	if !m.passes("WHERE") {
		return nil
	}
	return m.expr()
}

// emit lays a step behind the others, which shows with the token at a place.
func (m *model) emit(at int, s api.Step) {
	m.steps = append(m.steps, s)
	if len(m.steps) == 129 {
		m.note(at, api.ErrMany)
	}
}

// rows are how near operators hold what they take.
var rows = map[string]int{"OR": 1, "AND": 2, "NOT": 3, "=": 4, "<>": 4, "<": 4, "<=": 4, ">": 4, ">=": 4, "+": 5, "-": 5, "*": 6, "ahead -": 7}

var kinds = map[string]api.StepKind{"OR": api.StepOr, "AND": api.StepAnd, "NOT": api.StepNot, "=": api.StepEqual, "<>": api.StepUnlike, "<": api.StepLess, "<=": api.StepMost, ">": api.StepMore, ">=": api.StepLeast,
	"+": api.StepAdd, "-": api.StepSub, "*": api.StepMul, "ahead -": api.StepNeg}

// settle ends all operators that hold what they take as near as a row, or nearer, up to the last bracket.
func (m *model) settle(row int) {
	for len(m.stack) > 0 {
		top := m.stack[len(m.stack)-1]
		if rows[top.text] < row || rows[top.text] == 0 {
			return
		}
		m.stack = m.stack[:len(m.stack)-1]
		m.emit(m.at, api.Step{Kind: kinds[top.text]})
	}
}

// push lays what is ahead, or a bracket, on the stack, and notes that it is too deep.
func (m *model) push(o open) {
	around := 0
	for _, other := range m.stack {
		if other.ahead || rows[other.text] == 0 {
			around++
		}
	}
	if around == 16 {
		m.note(m.at, api.ErrDepth)
	}
	m.stack = append(m.stack, o)
	m.at++
}

func (m *model) top() *open {
	if len(m.stack) == 0 {
		return &open{}
	}
	return &m.stack[len(m.stack)-1]
}

// expr are the steps of an expression, up to the token that is none of it.
func (m *model) expr() []api.Step {
	m.steps, m.stack = nil, nil
	for m.operand() {
		if !m.behind() {
			break
		}
	}
	m.settle(1)
	return m.steps
}

// operand reads up to behind the next one that is no bracket; false, if the tokens end ahead of it.
func (m *model) operand() bool {
	for m.at < len(m.tokens) {
		k, sign := m.token(), m.sign()
		switch {
		case sign == "NOT":
			m.push(open{text: "NOT", ahead: true})
		case sign == "-":
			m.push(open{text: "ahead -", ahead: true})
		case sign == "(":
			m.push(open{text: "("})
		case sign == "[":
			m.push(open{text: "["})
			if m.sign() == "]" {
				m.close()
				return true
			}
		case sign == "{":
			m.push(open{text: "{"})
			if m.sign() == "}" {
				m.close()
				return true
			}
			m.field()
		case sign != "":
			m.at++
			m.emit(m.at, api.Step{Kind: map[string]api.StepKind{"NULL": api.StepNull, "TRUE": api.StepTrue, "FALSE": api.StepFalse}[sign]})
			return true
		case k.Kind == api.TokenInt:
			m.at++
			m.emit(m.at, api.Step{Kind: api.StepInt, N: k.N})
			return true
		case k.Kind == api.TokenText:
			m.at++
			m.emit(m.at, api.Step{Kind: api.StepText, Text: k.Text})
			return true
		default:
			path := m.pass()
			for m.passes(".") {
				if k := m.token(); k.Kind == api.TokenInt {
					path += "." + strconv.FormatInt(k.N, 10)
					m.at++
					continue
				}
				path += "." + m.pass()
			}
			m.emit(m.at, api.Step{Kind: api.StepPath, Text: path})
			return true
		}
	}
	return false
}

// field reads a name of a struct and what stands behind it.
func (m *model) field() {
	if m.at >= len(m.tokens) {
		return
	}
	s := m.top()
	if slices.Contains(s.names, m.token().Text) {
		m.note(m.at, api.ErrTwice)
	}
	m.many(len(s.names), m.at)
	s.names = append(s.names, m.pass())
	m.at++
}

// behind reads up to the next operand; false, if the expression ends ahead of it.
func (m *model) behind() bool {
	for m.at < len(m.tokens) {
		sign := m.sign()
		switch {
		case rows[sign] > 0 && sign != "NOT":
			m.settle(rows[sign])
			m.stack = append(m.stack, open{text: sign})
			m.at++
			return true
		case sign == "IS":
			m.settle(4)
			m.at++
			not := m.passes("NOT")
			if !m.passes("NULL") {
				return false
			}
			m.emit(m.at, api.Step{Kind: api.StepIsNull})
			if not {
				m.emit(m.at, api.Step{Kind: api.StepNot})
			}
		case sign == ")" || sign == "]" || sign == "}":
			m.settle(1)
			m.top().parts++
			m.close()
		case sign == ",":
			m.settle(1)
			if len(m.stack) == 0 {
				return false
			}
			m.at++
			m.top().parts++
			if m.top().text == "{" {
				m.field()
			} else {
				m.many(m.top().parts, m.at)
			}
			return true
		default:
			return false
		}
	}
	return false
}

// close ends the last bracket, at its closing one.
func (m *model) close() {
	o := *m.top()
	m.stack = m.stack[:len(m.stack)-1]
	m.at++
	switch o.text {
	case "[":
		m.emit(m.at, api.Step{Kind: api.StepList, N: int64(o.parts)})
	case "{":
		m.emit(m.at, api.Step{Kind: api.StepStruct, N: int64(o.parts), Text: strings.Join(o.names, ",")})
	}
}
