package print

import "tabellion/api"

func (w *writer) query(q api.Query) {
	if q.Op == api.QSelect {
		w.sel(q)
	} else {
		w.part(q.Kids[0], binding(q.Op))
		w.put(combining(q.Op))
		if q.All {
			w.put("all")
		}
		w.part(q.Kids[1], binding(q.Op)+1)
	}
	if len(q.Order) > 0 {
		w.put("order", "by")
		list(w, q.Order, w.order)
	}
	if q.Limit >= 0 {
		w.put("limit")
		w.number(q.Limit)
	}
	if q.Skip > 0 {
		w.put("offset")
		w.number(q.Skip)
	}
}

// binding tells how tightly a query binds.
func binding(op int) int {
	switch op {
	case api.QSelect:
		return 3
	case api.QInter:
		return 2
	}
	return 1
}

// combining returns the word that combines two queries.
func combining(op int) string {
	switch op {
	case api.QInter:
		return "intersect"
	case api.QExcept:
		return "except"
	}
	return "union"
}

// part writes a part of a query where one that binds at least so tightly is required.
func (w *writer) part(q api.Query, least int) {
	ended := len(q.Order) > 0 || q.Limit >= 0 || q.Skip > 0
	if ended || binding(q.Op) < least {
		w.sub(q)
	} else {
		w.query(q)
	}
}

func (w *writer) order(o api.Order) {
	if o.Name != "" {
		w.name(o.Name)
	} else {
		w.number(o.At)
	}
	if o.Down {
		w.put("desc")
	}
}

func (w *writer) sel(q api.Query) {
	w.put("select")
	if q.Distinct {
		w.put("distinct")
	}
	list(w, q.Items, w.item)
	if len(q.From) > 0 {
		w.put("from")
		w.from(q.From[0])
	}
	w.clause("where", q.Where)
	if len(q.Group) > 0 {
		w.put("group", "by")
		list(w, q.Group, w.any)
	}
	w.clause("having", q.Having)
}

// clause writes a word and an expression, if there is one.
func (w *writer) clause(word string, l []api.Expr) {
	if len(l) > 0 {
		w.put(word)
		w.any(l[0])
	}
}

func (w *writer) item(i api.Item) {
	switch {
	case i.Star && i.Table == "":
		w.put("*")
	case i.Star:
		w.name(i.Table)
		w.put(".", "*")
	default:
		w.any(i.E)
		w.alias(i.As)
	}
}

func (w *writer) alias(s string) {
	if s != "" {
		w.put("as")
		w.name(s)
	}
}

func (w *writer) from(f api.From) {
	switch f.Kind {
	case api.FTable:
		w.name(f.Name)
		w.alias(f.As)
		return
	case api.FQuery:
		w.sub(f.Sub[0])
		w.alias(f.As)
		return
	case api.FCross:
		w.from(f.Kids[0])
		w.put("cross", "join")
	case api.FInner:
		w.from(f.Kids[0])
		w.put("join")
	case api.FLeft:
		w.from(f.Kids[0])
		w.put("left", "join")
	}
	w.joined(f.Kids[1])
	w.clause("on", f.On)
}

// joined writes the second kid of a join.
func (w *writer) joined(f api.From) {
	if f.Kind == api.FTable || f.Kind == api.FQuery {
		w.from(f)
		return
	}
	w.put("(")
	w.from(f)
	w.put(")")
}

func (w *writer) stmt(s api.Stmt) {
	switch s.Kind {
	case api.SCreate:
		w.create(s)
	case api.SIndex:
		w.index(s)
	case api.SDrop:
		w.drop(s)
	case api.SInsert:
		w.insert(s)
	case api.SUpdate:
		w.put("update")
		w.name(s.Table)
		w.put("set")
		list(w, s.Sets, w.assign)
		w.clause("where", s.Where)
	case api.SDelete:
		w.put("delete", "from")
		w.name(s.Table)
		w.clause("where", s.Where)
	case api.SQuery:
		w.query(s.Q[0])
	case api.SExplain:
		w.put("explain")
		w.query(s.Q[0])
	default:
		w.put(single(s.Kind))
	}
}

// single returns the word of a statement that is one word.
func single(kind int) string {
	switch kind {
	case api.SBegin:
		return "begin"
	case api.SCommit:
		return "commit"
	case api.SRollback:
		return "rollback"
	case api.SAnalyze:
		return "analyze"
	case api.SVacuum:
		return "vacuum"
	}
	return "checkpoint"
}

func (w *writer) names(l []string) { inside(w, l, w.name) }

func (w *writer) create(s api.Stmt) {
	w.put("create", "table")
	w.name(s.Table)
	w.put("(")
	list(w, s.Cols, w.colDef)
	for _, k := range s.Keys {
		w.put(",")
		w.key(k)
	}
	for _, r := range s.Refs {
		w.put(",", "foreign", "key")
		w.names(r.Names)
		w.put("references")
		w.name(r.Table)
		w.names(r.To)
	}
	for _, e := range s.Checks {
		w.put(",", "check", "(")
		w.any(e)
		w.put(")")
	}
	w.put(")")
}

// colDef writes a column of a table that is created.
func (w *writer) colDef(c api.ColDef) {
	w.name(c.Name)
	switch c.Type {
	case api.VBool:
		w.put("bool")
	case api.VInt:
		w.put("int")
	case api.VText:
		w.put("text")
	}
	if c.NotNull {
		w.put("not", "null")
	}
}

func (w *writer) key(k api.KeyDef) {
	if k.Primary {
		w.put("primary", "key")
	} else {
		w.put("unique")
	}
	w.names(k.Names)
}

func (w *writer) index(s api.Stmt) {
	w.put("create")
	if s.Unique {
		w.put("unique")
	}
	w.put("index")
	w.name(s.Name)
	w.put("on")
	w.name(s.Table)
	w.names(s.Names)
}

func (w *writer) drop(s api.Stmt) {
	if s.Table != "" {
		w.put("drop", "table")
		w.name(s.Table)
		return
	}
	w.put("drop", "index")
	w.name(s.Name)
}

func (w *writer) insert(s api.Stmt) {
	w.put("insert", "into")
	w.name(s.Table)
	if len(s.Names) > 0 {
		w.names(s.Names)
	}
	if len(s.Q) > 0 {
		w.query(s.Q[0])
		return
	}
	w.put("values")
	list(w, s.Rows, w.row)
}

func (w *writer) row(l []api.Expr) { inside(w, l, w.any) }

func (w *writer) assign(a api.Assign) {
	w.name(a.Name)
	w.put("=")
	w.any(a.E)
}
