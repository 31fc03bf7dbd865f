package parse

import "tabellion/api"

// goesOn reports whether what follows makes a query in parentheses the beginning of a longer one.
func (p *parser) goesOn() bool {
	return p.sees("union", "except", "intersect", "order", "limit", "offset")
}

func (p *parser) query() api.Query { return p.ending(p.union(p.inter(p.part()))) }

// longer parses the rest of a query whose first part, a query in parentheses, is q.
func (p *parser) longer(q api.Query) api.Query {
	return p.ending(p.union(p.inter(q, true)))
}

// part returns a part of a union, and whether it is a query in parentheses.
func (p *parser) part() (api.Query, bool) {
	if !p.accept("(") {
		return p.sel(), false
	}
	q := p.query()
	p.expect(")")
	return q, true
}

// inter parses the rest of an intersection; closed tells whether the whole is a query in parentheses.
func (p *parser) inter(q api.Query, closed bool) (api.Query, bool) {
	for p.accept("intersect") {
		all := p.accept("all")
		right, _ := p.part()
		q, closed = both(api.QInter, all, q, right), false
	}
	return q, closed
}

// union parses the rest of a union; closed tells whether the whole is a query in parentheses.
func (p *parser) union(q api.Query, closed bool) (api.Query, bool) {
	for p.sees("union", "except") {
		op := api.QUnion
		if p.sees("except") {
			op = api.QExcept
		}
		p.at++
		all := p.accept("all")
		right, _ := p.inter(p.part())
		q, closed = both(op, all, q, right), false
	}
	return q, closed
}

func both(op int, all bool, a, b api.Query) api.Query {
	return api.Query{Op: op, All: all, Kids: []api.Query{a, b}, Limit: -1}
}

// ending parses the order and the limits of a query.
func (p *parser) ending(q api.Query, closed bool) api.Query {
	ended := len(q.Order) > 0 || q.Limit >= 0 || q.Skip > 0
	if closed && ended && p.sees("order", "limit", "offset") {
		p.fail()
	}
	if p.accept("order") {
		p.expect("by")
		q.Order = list(p, p.by)
	}
	if p.accept("limit") {
		q.Limit = p.number()
	}
	if p.accept("offset") {
		q.Skip = p.number()
	}
	return q
}

// by parses a column by which rows are ordered.
func (p *parser) by() api.Order {
	var o api.Order
	t := p.peek(0)
	if t.Kind == api.TkInt && t.N > 0 {
		o.At = p.number()
	} else {
		o.Name = p.name()
	}
	if !p.accept("asc") {
		o.Down = p.accept("desc")
	}
	return o
}

func (p *parser) sel() api.Query {
	p.expect("select")
	q := api.Query{Op: api.QSelect, Limit: -1}
	q.Distinct = p.accept("distinct")
	q.Items = list(p, p.item)
	if p.accept("from") {
		q.From = []api.From{p.from()}
	}
	q.Where = p.clause("where")
	if p.accept("group") {
		p.expect("by")
		q.Group = list(p, p.or)
	}
	q.Having = p.clause("having")
	return q
}

// clause parses a word and an expression, if that word comes next.
func (p *parser) clause(word string) []api.Expr {
	if !p.accept(word) {
		return nil
	}
	return []api.Expr{p.or()}
}

func (p *parser) item() api.Item {
	if p.accept("*") {
		return api.Item{Star: true}
	}
	if p.peek(0).Kind == api.TkName && is(p.peek(1), ".") && is(p.peek(2), "*") {
		table := p.name()
		p.expect(".", "*")
		return api.Item{Star: true, Table: table}
	}
	e := p.or()
	return api.Item{E: e, As: p.alias()}
}

// alias parses [[as] name].
func (p *parser) alias() string {
	if p.accept("as") || p.peek(0).Kind == api.TkName {
		return p.name()
	}
	return ""
}

func (p *parser) from() api.From { return p.sources(p.source()) }

// sources parses the rest of a from whose first source is f.
func (p *parser) sources(f api.From) api.From {
	f = p.joins(f)
	for p.accept(",") {
		f = joined(api.FCross, f, p.joins(p.source()))
	}
	return f
}

func joined(kind int, a, b api.From) api.From {
	return api.From{Kind: kind, Kids: []api.From{a, b}}
}

// joins parses the joins that follow the source f.
func (p *parser) joins(f api.From) api.From {
	for {
		kind := api.FInner
		switch {
		case p.accept("cross"):
			kind = api.FCross
		case p.accept("left"):
			kind = api.FLeft
		case !p.accept("inner") && !p.sees("join"):
			return f
		}
		p.expect("join")
		f = joined(kind, f, p.source())
		if kind != api.FCross {
			p.expect("on")
			f.On = []api.Expr{p.or()}
		}
	}
}

func (p *parser) source() api.From {
	if !p.accept("(") {
		name := p.name()
		return api.From{Kind: api.FTable, Name: name, As: p.alias()}
	}
	f, q := p.sourceContent()
	p.expect(")")
	if len(q) > 0 {
		return p.derived(q)
	}
	return f
}

// derived parses the name of a query that is a source.
func (p *parser) derived(q []api.Query) api.From {
	p.accept("as")
	return api.From{Kind: api.FQuery, Sub: q, As: p.name()}
}

// sourceContent parses what follows the opening parenthesis of a source, without the closing one: a query, if one is
// returned, and otherwise a from.
func (p *parser) sourceContent() (api.From, []api.Query) {
	if p.sees("select") {
		return api.From{}, []api.Query{p.query()}
	}
	if !p.accept("(") {
		return p.from(), nil
	}
	f, q := p.sourceContent()
	p.expect(")")
	if len(q) > 0 {
		if p.goesOn() {
			return api.From{}, []api.Query{p.longer(q[0])}
		}
		if p.sees(")") {
			return api.From{}, q
		}
		f = p.derived(q)
	}
	return p.sources(f), nil
}
