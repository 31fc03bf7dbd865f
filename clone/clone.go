// Package clone copies the trees of package api into new memory, so that results share none with arguments.
package clone

import "tabellion/api"

// Flat copies a list whose elements contain no lists.
func Flat[S ~[]T, T any](l S) S {
	if len(l) == 0 {
		return nil
	}
	out := make(S, len(l))
	copy(out, l)
	return out
}

// Each copies a list whose elements are copied by f.
func Each[S ~[]T, T any](l S, f func(T) T) S {
	if len(l) == 0 {
		return nil
	}
	out := make(S, len(l))
	for i, x := range l {
		out[i] = f(x)
	}
	return out
}

// Row copies a row.
func Row(r api.Row) api.Row { return Flat(r) }

// Rows copies rows.
func Rows(l []api.Row) []api.Row { return Each(l, Row) }

// Expr copies an expression.
func Expr(e api.Expr) api.Expr {
	e.Kids = Exprs(e.Kids)
	e.Sub = Each(e.Sub, Query)
	return e
}

// Exprs copies expressions.
func Exprs(l []api.Expr) []api.Expr { return Each(l, Expr) }

func item(i api.Item) api.Item {
	i.E = Expr(i.E)
	return i
}

func from(f api.From) api.From {
	f.Sub = Each(f.Sub, Query)
	f.Kids = Each(f.Kids, from)
	f.On = Exprs(f.On)
	return f
}

// Query copies a query.
func Query(q api.Query) api.Query {
	q.Kids = Each(q.Kids, Query)
	q.Items = Each(q.Items, item)
	q.From = Each(q.From, from)
	q.Where = Exprs(q.Where)
	q.Group = Exprs(q.Group)
	q.Having = Exprs(q.Having)
	q.Order = Flat(q.Order)
	return q
}

func key(k api.Key) api.Key {
	k.Cols = Flat(k.Cols)
	return k
}

func ref(r api.Ref) api.Ref {
	r.Cols = Flat(r.Cols)
	r.To = Flat(r.To)
	return r
}

// Table copies a table of a catalog.
func Table(t api.Table) api.Table {
	t.Cols = Flat(t.Cols)
	t.Keys = Each(t.Keys, key)
	t.Refs = Each(t.Refs, ref)
	t.Checks = Exprs(t.Checks)
	return t
}

// Index copies an index of a catalog.
func Index(i api.Index) api.Index {
	i.Cols = Flat(i.Cols)
	return i
}

// Catalog copies a catalog.
func Catalog(c api.Catalog) api.Catalog {
	c.Tables = Each(c.Tables, Table)
	c.Indexes = Each(c.Indexes, Index)
	return c
}

// Term copies a term.
func Term(t api.Term) api.Term {
	t.Kids = Terms(t.Kids)
	t.Sub = Each(t.Sub, Rel)
	return t
}

// Terms copies terms.
func Terms(l []api.Term) []api.Term { return Each(l, Term) }

// Agg copies an aggregate.
func Agg(a api.Agg) api.Agg {
	a.T = Terms(a.T)
	return a
}

// Rel copies a relation.
func Rel(r api.Rel) api.Rel {
	r.Cols = Flat(r.Cols)
	r.Kids = Each(r.Kids, Rel)
	r.Terms = Terms(r.Terms)
	r.Aggs = Each(r.Aggs, Agg)
	r.Keys = Flat(r.Keys)
	r.Rows = Rows(r.Rows)
	return r
}

// Bound copies a bound.
func Bound(b api.Bound) api.Bound {
	b.Key = Row(b.Key)
	return b
}

// Plan copies a plan.
func Plan(p api.Plan) api.Plan {
	p.Cols = Flat(p.Cols)
	p.Kids = Each(p.Kids, Plan)
	p.Terms = Terms(p.Terms)
	p.LKeys = Terms(p.LKeys)
	p.RKeys = Terms(p.RKeys)
	p.Aggs = Each(p.Aggs, Agg)
	p.Keys = Flat(p.Keys)
	p.Out = Flat(p.Out)
	p.Lo = Bound(p.Lo)
	p.Hi = Bound(p.Hi)
	p.Rows = Rows(p.Rows)
	return p
}

// Plans copies plans.
func Plans(l []api.Plan) []api.Plan { return Each(l, Plan) }

// Stat copies the statistics of a table.
func Stat(s api.Stat) api.Stat {
	s.Cols = Each(s.Cols, colStat)
	return s
}

func colStat(c api.ColStat) api.ColStat {
	c.Ends = Flat(c.Ends)
	c.Common = Flat(c.Common)
	return c
}

// Held copies a version with its place.
func Held(h api.Held) api.Held {
	h.V.Data = Row(h.V.Data)
	return h
}

// Write copies a write.
func Write(w api.Write) api.Write {
	w.Data = Row(w.Data)
	return w
}

// Data copies a table's rows.
func Data(d api.Data) api.Data {
	d.Rows = Rows(d.Rows)
	return d
}

// Rec copies a log record.
func Rec(r api.Rec) api.Rec {
	r.Txns = Flat(r.Txns)
	r.Dirty = Flat(r.Dirty)
	return r
}
