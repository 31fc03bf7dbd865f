package model

import (
	"slices"

	"tabellion/api"
	"tabellion/bind"
	"tabellion/clone"
	"tabellion/constr"
	"tabellion/dml"
	"tabellion/naive"
	"tabellion/print"
	"tabellion/schema"
	"tabellion/version"
)

// mostText is the greatest length of a statement that the directory can hold.
const mostText = api.MaxRec - 4

func (s source) Ask(r api.Rel) ([]api.Row, api.Errno) {
	db, err := s.Tables()
	if err != api.OK {
		return nil, err
	}
	return naive.Top(r, db), api.OK
}

// execute returns the reply to a statement, and the world after it.
func (w world) execute(who int, st api.Stmt, seen api.Reply) (api.Reply, world) {
	x := executor{w: w, who: who, st: st, seen: seen}
	if err := x.run(); err != api.OK {
		return api.Reply{Kind: st.Kind, E: err}, x.w
	}
	x.reply.Kind = st.Kind
	return x.reply, x.w
}

// executor executes a statement of a session; an error leaves its world as it was.
type executor struct {
	w     world
	who   int
	st    api.Stmt
	seen  api.Reply
	reply api.Reply
}

// session returns the session that executes the statement.
func (x *executor) session() *api.Session { return &x.w.s[x.who] }

// source returns what the session sees.
func (x *executor) source() source {
	s := source{w: x.w, snap: x.w.last}
	if x.session().In {
		s.snap, s.writes = x.session().Snap, x.session().Writes
	}
	return s
}

func (x *executor) run() (err api.Errno) {
	in := x.session().In
	switch x.st.Kind {
	case api.SQuery, api.SExplain:
		return x.query()
	case api.SInsert, api.SUpdate, api.SDelete:
		return x.write()
	case api.SBegin:
		if in {
			return api.ErrState
		}
		*x.session() = api.Session{In: true, Snap: x.w.last}
		return api.OK
	case api.SCommit, api.SRollback:
		if !in {
			return api.ErrState
		}
		s := *x.session()
		*x.session() = api.Session{}
		if x.st.Kind == api.SCommit {
			x.w, err = x.w.commit(s.Snap, s.Writes)
		}
		return err
	}
	if in {
		return api.ErrState
	}
	return x.manage()
}

func (x *executor) query() api.Errno {
	r, err := bind.Top(x.w.cat, x.st.Q[0])
	if err != api.OK {
		return err
	}
	if x.st.Kind == api.SExplain {
		x.reply.Text = clone.Flat(x.seen.Text)
		return api.OK
	}
	rows, err := x.source().Ask(r)
	x.reply.Cols, x.reply.Rows, x.reply.N = r.Cols, rows, len(rows)
	return err
}

func (x *executor) write() api.Errno {
	src := x.source()
	l, n, err := dml.Writes(src, src.writes, x.st)
	if err != api.OK {
		return err
	}
	x.reply.N = n
	if x.session().In {
		x.session().Writes = l
		return api.OK
	}
	x.w, err = x.w.commit(x.w.last, l)
	return err
}

// manage executes a statement that is no part of a transaction.
func (x *executor) manage() api.Errno {
	switch x.st.Kind {
	case api.SCreate:
		return x.create()
	case api.SIndex:
		return x.index()
	case api.SDrop:
		c, err := schema.Drop(x.w.cat, x.st)
		if err == api.OK {
			x.w.cat = c
			x.w.tables = slices.DeleteFunc(slices.Clone(x.w.tables), func(t table) bool { return t.name == x.st.Table })
		}
		return err
	case api.SVacuum:
		x.vacuum()
	}
	return api.OK
}

// storable tells why the directory cannot hold a statement.
func storable(st api.Stmt) api.Errno {
	text, err := print.Stmt(st)
	if err != api.OK {
		return err
	}
	if len(text) > mostText {
		return api.ErrLong
	}
	return api.OK
}

func (x *executor) create() api.Errno {
	c, err := schema.Create(x.w.cat, x.st)
	if err != api.OK {
		return err
	}
	t, _ := schema.Find(c, x.st.Table)
	if _, err := bind.Checks(t); err != api.OK {
		return err
	}
	if err := storable(x.st); err != api.OK {
		return err
	}
	x.w.cat = c
	x.w.tables = append(slices.Clone(x.w.tables), table{name: t.Name})
	return api.OK
}

func (x *executor) index() api.Errno {
	c, err := schema.Index(x.w.cat, x.st)
	if err != api.OK {
		return err
	}
	if err := constr.All(c, x.w.data(x.w.last)); err != api.OK {
		return err
	}
	if err := storable(x.st); err != api.OK {
		return err
	}
	x.w.cat = c
	return api.OK
}

// vacuum removes the versions that no session can see any more, unless it began long ago.
func (x *executor) vacuum() {
	for _, t := range x.w.tables {
		kept := slices.DeleteFunc(slices.Clone(t.held), func(h api.Held) bool { return version.Old(h.V, x.w.last) })
		x.reply.N += len(t.held) - len(kept)
		x.w = x.w.with(t.name, kept)
	}
}
