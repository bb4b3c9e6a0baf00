package parse

import (
	"strconv"
	"strings"

	"codicil/api"
)

// parser reads a statement of what is left.
type parser struct {
	input
	around int // how many brackets, NOT and - there are around the next token
	steps  []api.Step
}

func (p *parser) statement() api.Stmt {
	switch p.must("CREATE", "INSERT", "UPDATE", "DELETE", "SELECT") {
	case "CREATE":
		return p.create()
	case "INSERT":
		p.must("INTO")
		return api.Stmt{Kind: api.StmtInsert, Table: p.name(), Expr: p.expr()}
	case "UPDATE":
		return p.update()
	case "DELETE":
		p.must("FROM")
		return api.Stmt{Kind: api.StmtDelete, Table: p.name(), Expr: p.where()}
	case "SELECT":
		return p.selected()
	}
	return api.Stmt{}
}

func (p *parser) create() api.Stmt {
	if p.must("TABLE", "INDEX") == "TABLE" {
		return api.Stmt{Kind: api.StmtTable, Table: p.name()}
	}
	p.must("ON")
	x := api.Stmt{Kind: api.StmtIndex, Table: p.name()}
	p.must("(")
	x.Field = p.name()
	p.must(")")
	return x
}

func (p *parser) update() api.Stmt {
	x := api.Stmt{Kind: api.StmtUpdate, Table: p.name()}
	p.must("SET")
	var names []string
	p.parts(func() {
		name := p.name(names...)
		p.must("=")
		names = append(names, name)
		x.Items = append(x.Items, api.Item{Name: name, Expr: p.expr()})
	})
	x.Expr = p.where()
	return x
}

func (p *parser) selected() api.Stmt {
	x := api.Stmt{Kind: api.StmtSelect}
	if !p.may("*") {
		x.Items = p.selectedItems()
	}
	p.must("FROM")
	x.History = p.may("HISTORY")
	if x.History {
		p.must("(")
	}
	x.Table = p.name()
	if x.History {
		p.must(")")
	}
	x.Expr = p.where()
	if p.may("ORDER") {
		p.must("BY")
		x.Field = p.name()
		x.Desc = p.may("DESC")
	}
	return x
}

func (p *parser) selectedItems() []api.Item {
	var items []api.Item
	var names []string
	p.parts(func() {
		expr := p.expr()
		p.must("AS")
		name := p.name(names...)
		names = append(names, name)
		items = append(items, api.Item{Name: name, Expr: expr})
	})
	return items
}

// where is a condition, if there is one.
func (p *parser) where() []api.Step {
	if !p.may("WHERE") {
		return nil
	}
	return p.expr()
}

// expr is an expression that stands in no other one.
func (p *parser) expr() []api.Step {
	p.steps = nil
	p.ors()
	return p.steps
}

// add lays a step behind all others.
func (p *parser) add(s api.Step) {
	p.over = p.over || len(p.steps) == api.MaxExpr
	p.steps = append(p.steps, s)
}

// row reads parts with operators of one row between.
func (p *parser) row(part func(), texts ...string) {
	part()
	for p.is(texts...) {
		kind := kindOf(p.next().Text)
		part()
		p.add(api.Step{Kind: kind})
	}
}

func (p *parser) ors() { p.row(p.ands, "OR") }

func (p *parser) ands() { p.row(p.not, "AND") }

func (p *parser) sum() { p.row(p.product, "+", "-") }

func (p *parser) product() { p.row(p.signed, "*") }

// nest takes the next token, around what inner reads.
func (p *parser) nest(inner func()) {
	if p.around == api.MaxNest {
		p.fail(api.ErrDepth)
		return
	}
	p.next()
	p.around++
	inner()
	p.around--
}

func (p *parser) not() {
	if !p.is("NOT") {
		p.comparison()
		return
	}
	p.nest(p.not)
	p.add(api.Step{Kind: api.StepNot})
}

func (p *parser) signed() {
	if !p.is("-") {
		p.primary()
		return
	}
	p.nest(p.signed)
	p.add(api.Step{Kind: api.StepNeg})
}

func (p *parser) comparison() {
	p.sum()
	switch {
	case p.is("=", "<>", "<", "<=", ">", ">="):
		kind := kindOf(p.next().Text)
		p.sum()
		p.add(api.Step{Kind: kind})
	case p.may("IS"):
		not := p.may("NOT")
		p.must("NULL")
		p.add(api.Step{Kind: api.StepIsNull})
		if not {
			p.add(api.Step{Kind: api.StepNot})
		}
	}
}

func (p *parser) primary() {
	t := p.token()
	switch {
	case t.Kind == api.TokenInt:
		p.add(api.Step{Kind: api.StepInt, N: p.next().N})
	case t.Kind == api.TokenText:
		p.add(api.Step{Kind: api.StepText, Text: p.next().Text})
	case t.Kind == api.TokenWord:
		p.add(api.Step{Kind: api.StepPath, Text: p.path()})
	case p.may("NULL"):
		p.add(api.Step{Kind: api.StepNull})
	case p.may("TRUE"):
		p.add(api.Step{Kind: api.StepTrue})
	case p.may("FALSE"):
		p.add(api.Step{Kind: api.StepFalse})
	case p.is("("):
		p.nest(func() {
			p.ors()
			p.must(")")
		})
	case p.is("["):
		p.nest(p.list)
	case p.is("{"):
		p.nest(p.fields)
	default:
		p.fail(api.ErrSyntax)
	}
}

func (p *parser) path() string {
	parts := []string{p.name()}
	for p.may(".") {
		if t := p.token(); t.Kind == api.TokenInt {
			p.next()
			parts = append(parts, strconv.FormatInt(t.N, 10))
			continue
		}
		parts = append(parts, p.name())
	}
	return strings.Join(parts, ".")
}

func (p *parser) list() {
	many := p.partsTill("]", p.ors)
	p.add(api.Step{Kind: api.StepList, N: many})
}

func (p *parser) fields() {
	var names []string
	many := p.partsTill("}", func() {
		names = append(names, p.name(names...))
		p.must(":")
		p.ors()
	})
	p.add(api.Step{Kind: api.StepStruct, N: many, Text: strings.Join(names, ",")})
}
