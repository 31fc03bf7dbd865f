// Package dml determines what inserts, updates and deletes write, wherever the tables are kept.
package dml

import (
	"slices"

	"tabellion/algebra"
	"tabellion/api"
	"tabellion/bind"
	"tabellion/naive"
	"tabellion/overlay"
	"tabellion/schema"
	"tabellion/tri"
	"tabellion/types"
)

// Source is what a statement reads: the tables as its session sees them.
type Source interface {
	// Catalog returns the catalog.
	Catalog() api.Catalog
	// Seen returns the versions of a table.
	Seen(table string) ([]api.Held, api.Errno)
	// Tables returns the rows of all tables.
	Tables() ([]api.Data, api.Errno)
	// Ask returns the rows of a relation.
	Ask(r api.Rel) ([]api.Row, api.Errno)
}

// Writes returns the writes of a session after a statement, and the number of rows that it writes; w are those before.
func Writes(src Source, w []api.Write, st api.Stmt) ([]api.Write, int, api.Errno) {
	t, ok := schema.Find(src.Catalog(), st.Table)
	if !ok {
		return nil, 0, api.ErrName
	}
	c := changer{src: src, cat: src.Catalog(), table: t, st: st, writes: w}
	err := api.OK
	if st.Kind == api.SInsert {
		err = c.insert()
	} else {
		err = c.change()
	}
	if err != api.OK {
		return nil, 0, err
	}
	return c.writes, c.n, api.OK
}

// changer executes a statement that writes.
type changer struct {
	src    Source
	cat    api.Catalog
	table  api.Table
	st     api.Stmt
	writes []api.Write
	n      int
	db     []api.Data // the tables, if terms have queries
}

// columns returns the positions of columns by their names.
func (c *changer) columns(names []string) ([]int, api.Errno) {
	var l []int
	for _, n := range names {
		at := slices.IndexFunc(c.table.Cols, func(d api.ColDef) bool { return d.Name == n })
		if at < 0 {
			return nil, api.ErrName
		}
		if slices.Contains(l, at) {
			return nil, api.ErrTwice
		}
		l = append(l, at)
	}
	return l, api.OK
}

// load reads the tables if one of some terms has a query.
func (c *changer) load(terms []api.Term) (err api.Errno) {
	if slices.ContainsFunc(terms, func(t api.Term) bool { return !algebra.Plain(t) }) {
		c.db, err = c.src.Tables()
	}
	return err
}

// fits tells why a row cannot stand in the table.
func (c *changer) fits(r api.Row) api.Errno {
	for i, d := range c.table.Cols {
		if err := types.Fits(r[i], d); err != api.OK {
			return err
		}
	}
	return api.OK
}

// add adds a write of the table.
func (c *changer) add(kind, row int, data api.Row) (err api.Errno) {
	c.writes, err = overlay.Add(c.writes, api.Write{Table: c.table.Name, Kind: kind, Row: row, Data: data})
	c.n++
	return err
}

// insert executes an insert.
func (c *changer) insert() api.Errno {
	cols, err := c.columns(c.st.Names)
	if err != api.OK {
		return err
	}
	for i := range c.table.Cols {
		if len(c.st.Names) == 0 {
			cols = append(cols, i)
		}
	}
	var rows []api.Row
	if len(c.st.Q) > 0 {
		rows, err = c.selected(len(cols))
	} else {
		rows, err = c.listed(len(cols))
	}
	if err != api.OK {
		return err
	}
	for _, r := range rows {
		data := make(api.Row, len(c.table.Cols))
		for i, at := range cols {
			data[at] = r[i]
		}
		if err := c.fits(data); err != api.OK {
			return err
		}
		if err := c.add(api.WInsert, c.nextRow(), data); err != api.OK {
			return err
		}
	}
	return api.OK
}

// nextRow returns the number of the next row that the session inserts.
func (c *changer) nextRow() int {
	least := 0
	for _, w := range c.writes {
		least = min(least, w.Row)
	}
	return least - 1
}

// selected returns the rows of an insert's query.
func (c *changer) selected(width int) ([]api.Row, api.Errno) {
	r, err := bind.Top(c.cat, c.st.Q[0])
	if err != api.OK {
		return nil, err
	}
	if len(r.Cols) != width {
		return nil, api.ErrCount
	}
	return c.src.Ask(r)
}

// listed returns the rows that an insert lists.
func (c *changer) listed(width int) ([]api.Row, api.Errno) {
	var terms []api.Term
	for _, r := range c.st.Rows {
		if len(r) != width {
			return nil, api.ErrCount
		}
		for _, e := range r {
			t, err := bind.Term(c.cat, nil, e)
			if err != api.OK {
				return nil, err
			}
			terms = append(terms, t)
		}
	}
	if err := c.load(terms); err != api.OK {
		return nil, err
	}
	var rows []api.Row
	for ; len(terms) > 0; terms = terms[width:] {
		var r api.Row
		for _, t := range terms[:width] {
			r = append(r, naive.Term(t, nil, c.db))
		}
		rows = append(rows, r)
	}
	return rows, api.OK
}

// change executes an update or a delete.
func (c *changer) change() api.Errno {
	var names []string
	var exprs []api.Expr
	for _, a := range c.st.Sets {
		names, exprs = append(names, a.Name), append(exprs, a.E)
	}
	cols, err := c.columns(names)
	if err != api.OK {
		return err
	}
	terms, err := c.bind(append(exprs, c.st.Where...))
	if err != api.OK {
		return err
	}
	values, where := terms[:len(cols)], terms[len(cols):]
	for _, t := range where {
		if t.Type != api.VBool && t.Type != api.VNull {
			return api.ErrType
		}
	}
	seen, err := c.src.Seen(c.table.Name)
	if err != api.OK {
		return err
	}
	if err := c.load(terms); err != api.OK {
		return err
	}
	for _, h := range seen {
		env := []api.Row{h.V.Data}
		if len(where) > 0 && tri.From(naive.Term(where[0], env, c.db)) != api.Yes {
			continue
		}
		if err := c.changeRow(h, cols, values); err != api.OK {
			return err
		}
	}
	return api.OK
}

// bind binds expressions under the table's columns.
func (c *changer) bind(l []api.Expr) ([]api.Term, api.Errno) {
	var terms []api.Term
	for _, e := range l {
		t, err := bind.Term(c.cat, [][]api.Col{schema.Cols(c.table, c.table.Name)}, e)
		if err != api.OK {
			return nil, err
		}
		terms = append(terms, t)
	}
	return terms, api.OK
}

// changeRow updates or deletes a row.
func (c *changer) changeRow(h api.Held, cols []int, values []api.Term) api.Errno {
	if c.st.Kind == api.SDelete {
		return c.add(api.WDelete, h.V.Row, nil)
	}
	data := make(api.Row, len(c.table.Cols))
	copy(data, h.V.Data)
	for i, at := range cols {
		data[at] = naive.Term(values[i], []api.Row{h.V.Data}, c.db)
	}
	if err := c.fits(data); err != api.OK {
		return err
	}
	return c.add(api.WUpdate, h.V.Row, data)
}
