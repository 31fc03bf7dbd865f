package bind

import (
	"slices"

	"tabellion/algebra"
	"tabellion/api"
	"tabellion/syntax"
	"tabellion/types"
)

// group binds above a group: it is a binder under the group's columns that also knows what these columns are.
type group struct {
	binder
	below binder // binds under the columns that are grouped
	keys  []api.Term
	aggs  []api.Agg
	known []known
}

// known is an aggregate as it is written, and its index in aggs.
type known struct {
	e  api.Expr
	at int
}

func hasAggregate(e api.Expr) bool {
	return e.Op == api.EAgg || slices.ContainsFunc(e.Kids, hasAggregate)
}

// isGrouped reports whether the rows of a select are grouped.
func isGrouped(q api.Query) bool {
	items := slices.ContainsFunc(q.Items, func(i api.Item) bool { return !i.Star && hasAggregate(i.E) })
	return len(q.Group) > 0 || items || slices.ContainsFunc(q.Having, hasAggregate)
}

// group returns the group of a select whose own columns are those of b.
func (b binder) group(q api.Query) (group, api.Errno) {
	g := group{below: b}
	var cols []api.Col
	for _, e := range q.Group {
		t, err := b.term(e)
		if err != api.OK {
			return group{}, err
		}
		g.keys = append(g.keys, t)
		col := api.Col{Type: t.Type}
		if t.Op == api.ECol && t.Depth == 0 {
			col.Table, col.Name = b.env[0][t.At].Table, b.env[0][t.At].Name
		}
		cols = append(cols, col)
	}
	for _, e := range aggregates(q) {
		kind, err := g.add(e)
		if err != api.OK {
			return group{}, err
		}
		if len(g.keys)+len(g.aggs) > len(cols) {
			cols = append(cols, api.Col{Type: kind})
		}
	}
	g.binder = binder{b.cat, append([][]api.Col{cols}, b.env[1:]...)}
	return g, api.OK
}

// aggregates returns the aggregates of a select in the order in which they occur.
func aggregates(q api.Query) []api.Expr {
	var l []api.Expr
	for _, i := range q.Items {
		if !i.Star {
			l = appendAggregates(l, i.E)
		}
	}
	for _, e := range q.Having {
		l = appendAggregates(l, e)
	}
	return l
}

func appendAggregates(l []api.Expr, e api.Expr) []api.Expr {
	if e.Op == api.EAgg {
		return append(l, e)
	}
	for _, k := range e.Kids {
		l = appendAggregates(l, k)
	}
	return l
}

// add makes an aggregate known, and returns its type.
func (g *group) add(e api.Expr) (int, api.Errno) {
	a := api.Agg{Name: e.Name, Distinct: e.Distinct}
	kind := api.VInt
	for _, k := range e.Kids {
		t, err := g.below.term(k)
		if err != api.OK {
			return 0, err
		}
		if kind, err = types.Agg(e.Name, t.Type); err != api.OK {
			return 0, err
		}
		a.T = []api.Term{t}
	}
	at := slices.IndexFunc(g.aggs, func(b api.Agg) bool { return sameAgg(a, b) })
	if at < 0 {
		at = len(g.aggs)
		g.aggs = append(g.aggs, a)
	}
	g.known = append(g.known, known{e, at})
	return kind, api.OK
}

func sameAgg(a, b api.Agg) bool {
	return a.Name == b.Name && a.Distinct == b.Distinct && slices.EqualFunc(a.T, b.T, algebra.SameTerm)
}

// above binds an expression above the group.
func (g group) above(e api.Expr) (api.Term, api.Errno) {
	if e.Op == api.EAgg {
		at := slices.IndexFunc(g.known, func(k known) bool { return syntax.SameExpr(k.e, e) })
		if at < 0 {
			return api.Term{}, api.ErrGroup
		}
		return g.own(len(g.keys) + g.known[at].at), api.OK
	}
	if hasAggregate(e) {
		return g.node(e, g.above)
	}
	t, err := g.below.term(e)
	if err != api.OK {
		return api.Term{}, err
	}
	return g.lift(e, t)
}

// own returns the term of one of the group's columns.
func (g group) own(at int) api.Term { return columnTerm(0, at, g.env[0][at].Type) }

// lift binds an expression without aggregates above the group; t is its term below the group.
func (g group) lift(e api.Expr, t api.Term) (api.Term, api.Errno) {
	if at := slices.IndexFunc(g.keys, func(k api.Term) bool { return algebra.SameTerm(k, t) }); at >= 0 {
		return g.own(at), api.OK
	}
	if t.Op == api.ECol {
		if t.Depth == 0 {
			return api.Term{}, api.ErrGroup
		}
		return t, api.OK
	}
	// The terms of e's kids are known, too: they need not be bound again.
	next := 0
	return g.node(e, func(k api.Expr) (api.Term, api.Errno) {
		next++
		return g.lift(k, t.Kids[next-1])
	})
}

// star binds a column to which a star expands; it must be a key.
func (g group) star(t api.Term) (api.Term, api.Errno) {
	return g.lift(api.Expr{Op: api.ECol}, t)
}
