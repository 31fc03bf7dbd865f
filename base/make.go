package base

import (
	"slices"

	"tabellion/api"
	"tabellion/btree"
	"tabellion/clone"
	"tabellion/heap"
	"tabellion/octet"
	"tabellion/print"
	"tabellion/schema"
	"tabellion/transact"
	"tabellion/txn"
)

const (
	head     = 4 // bytes of a directory record before its text
	mostText = api.MaxRec - head
)

// record returns the beginning of a directory record: its letter and a number.
func record(letter string, n int) string { return letter + octet.Put(n, head-1) }

// idOf returns the number of a directory record.
func idOf(rec string) int {
	n, _ := octet.Get(rec, 1, head-1)
	return n
}

// maker makes tables and indexes in the store of an engine under a transaction.
type maker struct {
	e   api.Engine
	who int
}

// note stores a directory record.
func (m *maker) note(rec string) (err api.Errno) {
	m.e.Store, _, err = heap.Insert(m.e.Store, m.who, directory, rec)
	return err
}

// begin makes a heap or a tree in a nested action, and notes where it begins.
func (m *maker) begin(id int, create func(api.Store, int) (api.Store, int, api.Errno)) api.Errno {
	mark := txn.Mark(m.e.Store, m.who)
	s, page, err := create(m.e.Store, m.who)
	m.e.Store = s
	if err != api.OK {
		return err
	}
	// The root is not given back when the transaction is undone: what follows may change it by nested actions, too.
	if m.e.Store, err = txn.Nest(m.e.Store, m.who, mark); err != api.OK {
		return err
	}
	m.e.Roots = append(clone.Flat(m.e.Roots), api.Root{Id: id, Page: page})
	return m.note(record("r", id) + octet.Put(page, 3))
}

// fill adds the entries of all versions of its table to an index.
func (m *maker) fill(i api.Index) api.Errno {
	e, l, err := Load(m.e, i.Table)
	m.e = e
	for n := 0; n < len(l) && err == api.OK; n++ {
		var key string
		if key, err = keyOf(i, l[n].V.Data); err == api.OK {
			m.e.Store, err = btree.Put(m.e.Store, m.who, root(m.e, i.Id), api.Entry{Key: key, Rid: l[n].Rid})
		}
	}
	return err
}

// Make creates a table or an index.
func Make(e api.Engine, s api.Stmt) (api.Engine, api.Errno) {
	var c api.Catalog
	var err api.Errno
	switch s.Kind {
	case api.SCreate:
		c, err = schema.Create(e.Cat, s)
	case api.SIndex:
		c, err = schema.Index(e.Cat, s)
	default:
		err = api.ErrArg
	}
	if err != api.OK {
		return e, err
	}
	text, err := print.Stmt(s)
	if err != api.OK {
		return e, err
	}
	if len(text) > mostText {
		return e, api.ErrLong
	}
	return within(e, c, func(m *maker) api.Errno { return m.add(e.Cat.Next, s.Kind, text) })
}

// within does something under a transaction; the engine then has the catalog c and what was made.
func within(e api.Engine, c api.Catalog, act func(*maker) api.Errno) (api.Engine, api.Errno) {
	m := maker{e: e}
	m.e.Cat = c
	s, err := transact.Do(e.Store, func(s api.Store, who int) (api.Store, api.Errno) {
		m.e.Store, m.who = s, who
		err := act(&m)
		return m.e.Store, err
	})
	if err != api.OK {
		e.Store = s
		return e, err
	}
	m.e.Store = s
	return m.e, api.OK
}

// add stores what a statement created; next is the catalog's Next before it.
func (m *maker) add(next, kind int, text string) api.Errno {
	if err := m.note(record("d", next) + text); err != api.OK {
		return err
	}
	if kind == api.SCreate {
		if err := m.begin(next, heap.New); err != api.OK {
			return err
		}
	}
	for _, i := range m.e.Cat.Indexes {
		if i.Id < next {
			continue
		}
		if err := m.begin(i.Id, btree.New); err != api.OK {
			return err
		}
		if err := m.fill(i); err != api.OK {
			return err
		}
	}
	return api.OK
}

// Drop removes a table or an index.
func Drop(e api.Engine, s api.Stmt) (api.Engine, api.Errno) {
	c, err := schema.Drop(e.Cat, s)
	if err != api.OK {
		return e, err
	}
	return within(e, c, func(m *maker) api.Errno { return m.remove(e.Cat) })
}

// ids returns the numbers of the tables and of the indexes of a catalog.
func ids(c api.Catalog) (tables, indexes []int) {
	for _, t := range c.Tables {
		tables = append(tables, t.Id)
	}
	for _, i := range c.Indexes {
		indexes = append(indexes, i.Id)
	}
	return tables, indexes
}

// remove removes what is in the old catalog and no more in that of m.
func (m *maker) remove(old api.Catalog) api.Errno {
	tables, indexes := ids(old)
	keptTables, keptIndexes := ids(m.e.Cat)
	kept := slices.Concat(keptTables, keptIndexes)
	gone := func(id int) bool {
		return (slices.Contains(tables, id) || slices.Contains(indexes, id)) && !slices.Contains(kept, id)
	}
	s, rids, recs, err := heap.Scan(m.e.Store, directory)
	m.e.Store = s
	for i := 0; i < len(recs) && err == api.OK; i++ {
		if gone(idOf(recs[i])) {
			m.e.Store, err = heap.Cut(m.e.Store, m.who, rids[i])
		}
	}
	for _, r := range m.e.Roots {
		switch {
		case err != api.OK || !gone(r.Id):
		case slices.Contains(tables, r.Id):
			m.e.Store, err = heap.Drop(m.e.Store, m.who, r.Page)
		default:
			m.e.Store, err = btree.Drop(m.e.Store, m.who, r.Page)
		}
	}
	m.e.Roots = slices.DeleteFunc(clone.Flat(m.e.Roots), func(r api.Root) bool { return gone(r.Id) })
	return err
}
