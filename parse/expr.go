package parse

import (
	"tabellion/api"
	"tabellion/value"
)

// infix is an operator between two operands.
type infix struct {
	sign string
	op   int
}

// chain parses operands and the operators between them, which associate to the left.
func (p *parser) chain(operand func() api.Expr, ops ...infix) api.Expr {
	e := operand()
	for {
		op := p.acceptOne(ops)
		if op == 0 {
			return e
		}
		e = node(op, e, operand())
	}
}

// acceptOne goes on behind one of these operators and returns it, or 0 if none comes next.
func (p *parser) acceptOne(ops []infix) int {
	for _, o := range ops {
		if p.accept(o.sign) {
			return o.op
		}
	}
	return 0
}

func node(op int, kids ...api.Expr) api.Expr { return api.Expr{Op: op, Kids: kids} }

func (p *parser) or() api.Expr { return p.chain(p.and, infix{"or", api.EOr}) }

func (p *parser) and() api.Expr { return p.chain(p.not, infix{"and", api.EAnd}) }

func (p *parser) not() api.Expr {
	if len(p.given) == 0 && p.accept("not") {
		return node(api.ENot, p.not())
	}
	return p.cmp()
}

func (p *parser) cmp() api.Expr {
	a := p.cat()
	op := p.acceptOne([]infix{
		{"=", api.EEq}, {"<>", api.ENe}, {"<", api.ELt}, {"<=", api.ELe}, {">", api.EGt}, {">=", api.EGe},
	})
	if op != 0 {
		return node(op, a, p.cat())
	}
	if p.accept("is") {
		not := p.accept("not")
		p.expect("null")
		return negated(not, node(api.EIsNull, a))
	}
	not := p.accept("not")
	switch {
	case p.accept("like"):
		return negated(not, node(api.ELike, a, p.cat()))
	case p.accept("between"):
		low := p.cat()
		p.expect("and")
		return negated(not, node(api.EBetween, a, low, p.cat()))
	case p.accept("in"):
		return negated(not, p.inside(a))
	case not:
		p.fail()
	}
	return a
}

func negated(not bool, e api.Expr) api.Expr {
	if not {
		return node(api.ENot, e)
	}
	return e
}

// inside parses what follows the word in.
func (p *parser) inside(a api.Expr) api.Expr {
	p.expect("(")
	c := p.content()
	if len(c.query) > 0 && !c.wrapped {
		p.expect(")")
		return api.Expr{Op: api.EInSub, Kids: []api.Expr{a}, Sub: c.query}
	}
	l := []api.Expr{a, c.value()}
	for p.accept(",") {
		l = append(l, p.or())
	}
	p.expect(")")
	return node(api.EIn, l...)
}

func (p *parser) cat() api.Expr { return p.chain(p.add, infix{"||", api.ECat}) }

func (p *parser) add() api.Expr {
	return p.chain(p.mul, infix{"+", api.EAdd}, infix{"-", api.ESub})
}

func (p *parser) mul() api.Expr {
	return p.chain(p.una, infix{"*", api.EMul}, infix{"/", api.EDiv}, infix{"%", api.EMod})
}

func (p *parser) una() api.Expr {
	if len(p.given) == 0 && p.accept("-") {
		return node(api.ENeg, p.una())
	}
	return p.prim()
}

func (p *parser) prim() api.Expr {
	if len(p.given) > 0 {
		e := p.given[0]
		p.given = nil
		return e
	}
	t := p.peek(0)
	switch t.Kind {
	case api.TkInt:
		p.at++
		return constant(value.Num(t.N))
	case api.TkText:
		p.at++
		return constant(value.Str(t.S))
	case api.TkName:
		return p.named()
	}
	return p.worded()
}

// worded parses a primary that begins with a word or a parenthesis.
func (p *parser) worded() api.Expr {
	switch {
	case p.accept("true"):
		return constant(value.Bool(true))
	case p.accept("false"):
		return constant(value.Bool(false))
	case p.accept("null"):
		return constant(api.Value{})
	case p.accept("case"):
		return p.cases()
	case p.accept("exists"):
		p.expect("(")
		q := p.query()
		p.expect(")")
		return api.Expr{Op: api.EExists, Sub: []api.Query{q}}
	}
	p.expect("(")
	c := p.content()
	p.expect(")")
	return c.value()
}

func constant(v api.Value) api.Expr { return api.Expr{Op: api.EConst, V: v} }

// named parses a column or a call.
func (p *parser) named() api.Expr {
	name := p.name()
	if p.accept(".") {
		return api.Expr{Op: api.ECol, Table: name, Name: p.name()}
	}
	if !p.accept("(") {
		return api.Expr{Op: api.ECol, Name: name}
	}
	e := api.Expr{Op: api.EFunc, Name: name}
	if name == "count" || name == "sum" || name == "min" || name == "max" {
		e.Op = api.EAgg
		e.Distinct = p.accept("distinct")
		if e.Distinct || name != "count" || !p.accept("*") {
			e.Kids = []api.Expr{p.or()}
		}
	} else if !p.sees(")") {
		e.Kids = list(p, p.or)
	}
	p.expect(")")
	return e
}

// cases parses what follows the word case.
func (p *parser) cases() api.Expr {
	p.expect("when")
	var kids []api.Expr
	for more := true; more; more = p.accept("when") {
		condition := p.or()
		p.expect("then")
		kids = append(kids, condition, p.or())
	}
	if p.accept("else") {
		kids = append(kids, p.or())
	}
	p.expect("end")
	return node(api.ECase, kids...)
}

// content is what stands between parentheses: an expression, or a query, which may itself be in parentheses.
type content struct {
	expr    api.Expr
	query   []api.Query
	wrapped bool
}

// value returns a content as an expression.
func (c content) value() api.Expr {
	if len(c.query) > 0 {
		return api.Expr{Op: api.EScalar, Sub: c.query}
	}
	return c.expr
}

// content parses what follows an opening parenthesis, without the closing one.
func (p *parser) content() content {
	if p.sees("select") {
		return content{query: []api.Query{p.query()}}
	}
	if !p.accept("(") {
		return content{expr: p.or()}
	}
	c := p.content()
	p.expect(")")
	if len(c.query) > 0 {
		if p.goesOn() {
			return content{query: []api.Query{p.longer(c.query[0])}}
		}
		if p.sees(")") {
			return content{query: c.query, wrapped: true}
		}
	}
	p.given = []api.Expr{c.value()}
	return content{expr: p.or()}
}
