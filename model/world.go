package model

import (
	"cmp"
	"slices"

	"tabellion/api"
	"tabellion/clone"
	"tabellion/commit"
	"tabellion/constr"
	"tabellion/fitting"
	"tabellion/overlay"
	"tabellion/parse"
	"tabellion/schema"
	"tabellion/version"
)

const sessions = 4

// table is a table's versions, in the order of their rows.
type table struct {
	name string
	held []api.Held
}

// world is everything that replies depend on. Its lists are never written: another world has other lists.
type world struct {
	cat        api.Catalog
	tables     []table
	last, next int
	s          [sessions]api.Session
	armed      bool    // the power may fail
	off        bool    // the power is off
	other      []world // the world that there may be instead, once the power is on again (none or one)
}

func newWorld() world { return world{cat: api.Catalog{Next: 1}, next: 1} }

// opened returns the world after an opening.
func (w world) opened() world {
	w.armed, w.off, w.other = false, false, nil
	w.s = [sessions]api.Session{}
	return w
}

// held returns the versions of a table.
func (w world) held(name string) []api.Held {
	for _, t := range w.tables {
		if t.name == name {
			return t.held
		}
	}
	return nil
}

// with returns the world with other versions of a table.
func (w world) with(name string, held []api.Held) world {
	w.tables = slices.Clone(w.tables)
	for i := range w.tables {
		if w.tables[i].name == name {
			w.tables[i].held = held
		}
	}
	return w
}

// data returns the tables with the rows that a snapshot sees.
func (w world) data(snap int) []api.Data {
	var db []api.Data
	for _, t := range w.cat.Tables {
		d := api.Data{Table: t.Name}
		for _, h := range version.Pick(w.held(t.Name), snap) {
			d.Rows = append(d.Rows, h.V.Data)
		}
		db = append(db, d)
	}
	return db
}

// step returns the reply to an act other than an opening, and the world after it.
func (w world) step(a api.Act, seen api.Reply) (api.Reply, world) {
	switch a.Kind {
	case api.AText:
		return w.text(a, seen)
	case api.APower:
		w.armed = a.N >= 0
		return api.Reply{}, w
	case api.AFlush, api.ACheck:
		return w.write(a, seen)
	}
	return api.Reply{E: api.ErrArg}, w
}

// write returns the reply to a flush or a checkpoint.
func (w world) write(a api.Act, seen api.Reply) (api.Reply, world) {
	switch {
	case w.off:
		return api.Reply{E: api.ErrDown}, w
	case seen.E == api.ErrDown && w.armed:
		w.off = true
		return api.Reply{E: api.ErrDown}, w
	case seen.E == api.ErrFull || seen.E == api.ErrArg && a.Kind == api.AFlush:
		return api.Reply{E: seen.E}, w
	}
	return api.Reply{}, w
}

// text returns the reply to a statement of a session.
func (w world) text(a api.Act, seen api.Reply) (api.Reply, world) {
	if a.Who < 0 || a.Who >= sessions {
		return api.Reply{E: api.ErrArg}, w
	}
	if w.off {
		return api.Reply{E: api.ErrDown}, w
	}
	st, at, err := parse.Stmt(a.Text)
	if err != api.OK {
		return api.Reply{E: err, N: at}, w
	}
	reply, after := w.execute(a.Who, st, seen)
	if seen.E == api.ErrDown && w.armed {
		w.off, w.other = true, nil
		if reply.E == api.OK {
			w.other = []world{after}
		}
		return api.Reply{Kind: st.Kind, E: api.ErrDown}, w
	}
	space := seen.E == api.ErrFull || seen.E == api.ErrLong
	if space && reply.E != seen.E && st.Kind != api.SBegin && st.Kind != api.SRollback {
		if st.Kind == api.SCommit {
			w.s[a.Who] = api.Session{}
		}
		return api.Reply{Kind: st.Kind, E: seen.E}, w
	}
	return reply, after
}

// commit returns the world after the commit of a transaction's writes.
func (w world) commit(snap int, l []api.Write) (world, api.Errno) {
	if len(l) == 0 {
		return w, api.OK
	}
	for _, x := range l {
		t, ok := schema.Find(w.cat, x.Table)
		if !ok {
			return w, api.ErrName
		}
		misfit := slices.ContainsFunc(l, func(y api.Write) bool { return y.Table == t.Name && !fitting.Fits(t, y) })
		if misfit || commit.Clash(w.held(t.Name), snap, l, t.Name) {
			return w, api.ErrConflict
		}
	}
	after := w
	after.last++
	for _, x := range l {
		after = after.apply(x)
	}
	if err := constr.All(after.cat, after.data(after.last)); err != api.OK {
		return w, err
	}
	return after, api.OK
}

// apply returns the world after a write in its last commit.
func (w world) apply(x api.Write) world {
	held := clone.Each(w.held(x.Table), clone.Held)
	v := api.Version{Row: x.Row, From: w.last, Data: clone.Row(x.Data)}
	if x.Kind == api.WInsert {
		v.Row = w.next
		w.next++
	} else if at := slices.IndexFunc(held, func(h api.Held) bool { return h.V.Row == x.Row && h.V.To == 0 }); at >= 0 {
		held[at].V.To = w.last
	}
	if x.Kind != api.WDelete {
		held = append(held, api.Held{V: v})
	}
	slices.SortStableFunc(held, func(a, b api.Held) int {
		return cmp.Or(cmp.Compare(a.V.Row, b.V.Row), cmp.Compare(a.V.From, b.V.From))
	})
	return w.with(x.Table, held)
}

// source is what a session sees of a world.
type source struct {
	w      world
	snap   int
	writes []api.Write
}

func (s source) Catalog() api.Catalog { return s.w.cat }

func (s source) Seen(name string) ([]api.Held, api.Errno) {
	t, _ := schema.Find(s.w.cat, name)
	return overlay.Rows(version.Pick(s.w.held(name), s.snap), fitting.Of(t, s.writes), name), api.OK
}

func (s source) Tables() ([]api.Data, api.Errno) {
	var db []api.Data
	for _, t := range s.w.cat.Tables {
		db = append(db, overlay.Data(version.Pick(s.w.held(t.Name), s.snap), fitting.Of(t, s.writes), t.Name))
	}
	return db, api.OK
}
