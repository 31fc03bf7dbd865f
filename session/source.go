package session

import (
	"tabellion/api"
	"tabellion/base"
	"tabellion/engine"
	"tabellion/fitting"
	"tabellion/overlay"
	"tabellion/schema"
	"tabellion/version"
)

// source is what a session sees of an engine: its snapshot and its own writes.
type source struct {
	e      api.Engine
	snap   int
	writes []api.Write
}

func (s *source) Catalog() api.Catalog { return s.e.Cat }

func (s *source) Seen(table string) ([]api.Held, api.Errno) {
	e, l, err := base.Load(s.e, table)
	s.e = e
	if err != api.OK {
		return nil, err
	}
	t, _ := schema.Find(e.Cat, table)
	return overlay.Rows(version.Pick(l, s.snap), fitting.Of(t, s.writes), table), api.OK
}

func (s *source) Tables() ([]api.Data, api.Errno) {
	var db []api.Data
	for _, t := range s.e.Cat.Tables {
		l, err := s.Seen(t.Name)
		if err != api.OK {
			return nil, err
		}
		d := api.Data{Table: t.Name}
		for _, h := range l {
			d.Rows = append(d.Rows, h.V.Data)
		}
		db = append(db, d)
	}
	return db, api.OK
}

func (s *source) Ask(r api.Rel) ([]api.Row, api.Errno) {
	e, rows, _, _, err := engine.Ask(s.e, s.snap, s.writes, r)
	s.e = e
	return rows, err
}
