package parse

import "tabellion/api"

// placed is a statement of a script and the offset of its first token.
type placed struct {
	at   int
	stmt api.Stmt
}

// script parses statements, each followed by a semicolon.
func (p *parser) script() []placed {
	var l []placed
	for p.at < len(p.tokens) {
		at := p.tokens[p.at].At
		l = append(l, placed{at, p.stmt()})
		p.expect(";")
	}
	return l
}

func (p *parser) stmt() api.Stmt {
	switch {
	case p.accept("create"):
		if p.accept("table") {
			return p.createTable()
		}
		return p.createIndex()
	case p.accept("drop"):
		if p.accept("table") {
			return api.Stmt{Kind: api.SDrop, Table: p.name()}
		}
		p.expect("index")
		return api.Stmt{Kind: api.SDrop, Name: p.name()}
	case p.accept("insert"):
		return p.insert()
	case p.accept("update"):
		return p.update()
	case p.accept("delete"):
		p.expect("from")
		table := p.name()
		return api.Stmt{Kind: api.SDelete, Table: table, Where: p.clause("where")}
	case p.accept("explain"):
		return api.Stmt{Kind: api.SExplain, Q: []api.Query{p.query()}}
	case p.sees("select", "("):
		return api.Stmt{Kind: api.SQuery, Q: []api.Query{p.query()}}
	}
	return api.Stmt{Kind: p.single()}
}

// single parses a statement that is one word.
func (p *parser) single() int {
	kind := p.acceptOne([]infix{
		{"begin", api.SBegin}, {"commit", api.SCommit}, {"rollback", api.SRollback}, {"analyze", api.SAnalyze},
		{"vacuum", api.SVacuum}, {"checkpoint", api.SCheck},
	})
	if kind == 0 {
		p.fail()
	}
	return kind
}

// names parses names between parentheses.
func (p *parser) names() []string {
	p.expect("(")
	l := list(p, p.name)
	p.expect(")")
	return l
}

func (p *parser) createIndex() api.Stmt {
	unique := p.accept("unique")
	p.expect("index")
	name := p.name()
	p.expect("on")
	table := p.name()
	return api.Stmt{Kind: api.SIndex, Name: name, Table: table, Names: p.names(), Unique: unique}
}

func (p *parser) createTable() api.Stmt {
	s := api.Stmt{Kind: api.SCreate, Table: p.name()}
	p.expect("(")
	s.Cols = []api.ColDef{p.column()}
	for p.accept(",") {
		p.tablePart(&s)
	}
	p.expect(")")
	return s
}

// tablePart parses a column or a constraint into s.
func (p *parser) tablePart(s *api.Stmt) {
	switch {
	case p.accept("primary"):
		p.expect("key")
		s.Keys = append(s.Keys, api.KeyDef{Primary: true, Names: p.names()})
	case p.accept("unique"):
		s.Keys = append(s.Keys, api.KeyDef{Names: p.names()})
	case p.accept("foreign"):
		p.expect("key")
		names := p.names()
		p.expect("references")
		table := p.name()
		s.Refs = append(s.Refs, api.RefDef{Names: names, Table: table, To: p.names()})
	case p.accept("check"):
		p.expect("(")
		s.Checks = append(s.Checks, p.or())
		p.expect(")")
	default:
		s.Cols = append(s.Cols, p.column())
	}
}

func (p *parser) column() api.ColDef {
	c := api.ColDef{Name: p.name()}
	c.Type = p.acceptOne([]infix{{"int", api.VInt}, {"text", api.VText}, {"bool", api.VBool}})
	if c.Type == 0 {
		p.fail()
	}
	if p.accept("not") {
		p.expect("null")
		c.NotNull = true
	}
	return c
}

func (p *parser) insert() api.Stmt {
	p.expect("into")
	s := api.Stmt{Kind: api.SInsert, Table: p.name()}
	if p.sees("(") && p.peek(1).Kind == api.TkName {
		s.Names = p.names()
	}
	if p.accept("values") {
		s.Rows = list(p, p.row)
	} else {
		s.Q = []api.Query{p.query()}
	}
	return s
}

func (p *parser) row() []api.Expr {
	p.expect("(")
	l := list(p, p.or)
	p.expect(")")
	return l
}

func (p *parser) update() api.Stmt {
	s := api.Stmt{Kind: api.SUpdate, Table: p.name()}
	p.expect("set")
	s.Sets = list(p, p.assign)
	s.Where = p.clause("where")
	return s
}

func (p *parser) assign() api.Assign {
	name := p.name()
	p.expect("=")
	return api.Assign{Name: name, E: p.or()}
}
