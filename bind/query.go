package bind

import (
	"slices"

	"tabellion/api"
	"tabellion/schema"
	"tabellion/scope"
	"tabellion/types"
)

// query binds a query that the binder's columns enclose.
func (b binder) query(q api.Query) (api.Rel, api.Errno) {
	var r api.Rel
	var err api.Errno
	if q.Op == api.QSelect {
		r, err = b.sel(q)
	} else {
		r, err = b.both(q)
	}
	if err != api.OK {
		return api.Rel{}, err
	}
	limited := q.Limit != -1 || q.Skip > 0
	if len(q.Order) > 0 || limited {
		keys, err := scope.Order(r.Cols, q.Order)
		if err != api.OK {
			return api.Rel{}, err
		}
		r = api.Rel{Op: api.RSort, Cols: r.Cols, Kids: []api.Rel{r}, Keys: keys}
	}
	if limited {
		r = api.Rel{Op: api.RLimit, Cols: r.Cols, Kids: []api.Rel{r}, Limit: q.Limit, Skip: q.Skip}
	}
	return r, api.OK
}

// both binds a query made of two.
func (b binder) both(q api.Query) (api.Rel, api.Errno) {
	left, err := b.query(q.Kids[0])
	if err != api.OK {
		return api.Rel{}, err
	}
	right, err := b.query(q.Kids[1])
	if err != api.OK {
		return api.Rel{}, err
	}
	if len(left.Cols) != len(right.Cols) {
		return api.Rel{}, api.ErrCount
	}
	cols := slices.Clone(left.Cols)
	for i := range cols {
		kind, ok := types.Join(cols[i].Type, right.Cols[i].Type)
		if !ok {
			return api.Rel{}, api.ErrType
		}
		cols[i].Type = kind
	}
	op := api.RUnion
	switch q.Op {
	case api.QInter:
		op = api.RInter
	case api.QExcept:
		op = api.RExcept
	}
	return api.Rel{Op: op, Cols: cols, Kids: []api.Rel{left, right}, All: q.All}, api.OK
}

// from binds the source of a select.
func (b binder) from(l []api.From) (api.Rel, api.Errno) {
	if len(l) == 0 {
		return api.Rel{Op: api.RRows, Rows: []api.Row{{}}}, api.OK
	}
	f := l[0]
	switch f.Kind {
	case api.FTable:
		return b.table(f)
	case api.FQuery:
		r, err := b.query(f.Sub[0])
		r.Cols = slices.Clone(r.Cols)
		for i := range r.Cols {
			r.Cols[i].Table = f.As
		}
		return r, err
	}
	return b.join(f)
}

func (b binder) table(f api.From) (api.Rel, api.Errno) {
	t, ok := schema.Find(b.cat, f.Name)
	if !ok {
		return api.Rel{}, api.ErrName
	}
	as := f.As
	if as == "" {
		as = f.Name
	}
	return api.Rel{Op: api.RTable, Table: f.Name, Cols: schema.Cols(t, as)}, api.OK
}

func (b binder) join(f api.From) (api.Rel, api.Errno) {
	left, err := b.from(f.Kids[:1])
	if err != api.OK {
		return api.Rel{}, err
	}
	right, err := b.from(f.Kids[1:])
	if err != api.OK {
		return api.Rel{}, err
	}
	r := api.Rel{Op: api.RJoin, Cols: slices.Concat(left.Cols, right.Cols), Kids: []api.Rel{left, right}}
	if f.Kind == api.FLeft {
		r.Op = api.RLeft
	}
	for _, e := range f.On {
		on, err := condition(e, b.under(r.Cols).term)
		if err != api.OK {
			return api.Rel{}, err
		}
		r.Terms = []api.Term{on}
	}
	return r, api.OK
}

// filter puts a filter over r for a condition, if there is one.
func filter(r api.Rel, l []api.Expr, bind binding) (api.Rel, api.Errno) {
	if len(l) == 0 {
		return r, api.OK
	}
	t, err := condition(l[0], bind)
	if err != api.OK {
		return api.Rel{}, err
	}
	return api.Rel{Op: api.RFilter, Cols: r.Cols, Kids: []api.Rel{r}, Terms: []api.Term{t}}, api.OK
}

// sel binds a select.
func (b binder) sel(q api.Query) (api.Rel, api.Errno) {
	r, err := b.from(q.From)
	if err != api.OK {
		return api.Rel{}, err
	}
	own := b.under(r.Cols)
	if r, err = filter(r, q.Where, own.term); err != api.OK {
		return api.Rel{}, err
	}
	l := selection{cols: r.Cols, bind: own.term, star: plainStar}
	if isGrouped(q) {
		g, err := own.group(q)
		if err != api.OK {
			return api.Rel{}, err
		}
		r = api.Rel{Op: api.RGroup, Cols: g.env[0], Kids: []api.Rel{r}, Terms: g.keys, Aggs: g.aggs}
		l.bind, l.star = g.above, g.star
	}
	if r, err = filter(r, q.Having, l.bind); err != api.OK {
		return api.Rel{}, err
	}
	if r, err = l.project(r, q.Items); err != api.OK {
		return api.Rel{}, err
	}
	if q.Distinct {
		r = api.Rel{Op: api.RDistinct, Cols: r.Cols, Kids: []api.Rel{r}}
	}
	return r, api.OK
}

// selection is how the items of a select are bound.
type selection struct {
	cols []api.Col // what a star stands for
	bind binding
	star func(api.Term) (api.Term, api.Errno) // how a column that a star stands for is bound
}

func plainStar(t api.Term) (api.Term, api.Errno) { return t, api.OK }

// project puts the projection to items over r.
func (l selection) project(r api.Rel, items []api.Item) (api.Rel, api.Errno) {
	out := api.Rel{Op: api.RProject, Kids: []api.Rel{r}}
	for _, i := range items {
		var err api.Errno
		if i.Star {
			err = l.addStar(&out, i.Table)
		} else {
			err = l.addItem(&out, i)
		}
		if err != api.OK {
			return api.Rel{}, err
		}
	}
	if len(out.Cols) > api.MaxOut {
		return api.Rel{}, api.ErrLong
	}
	return out, api.OK
}

func (l selection) addItem(out *api.Rel, i api.Item) api.Errno {
	t, err := l.bind(i.E)
	if err != api.OK {
		return err
	}
	out.Cols = append(out.Cols, api.Col{Name: scope.Out(i, len(out.Cols)), Type: t.Type})
	out.Terms = append(out.Terms, t)
	return api.OK
}

func (l selection) addStar(out *api.Rel, table string) api.Errno {
	positions, err := scope.Star(l.cols, table)
	if err != api.OK {
		return err
	}
	for _, at := range positions {
		t, err := l.star(columnTerm(0, at, l.cols[at].Type))
		if err != api.OK {
			return err
		}
		out.Cols = append(out.Cols, l.cols[at])
		out.Terms = append(out.Terms, t)
	}
	return api.OK
}
