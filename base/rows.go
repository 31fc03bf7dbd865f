package base

import (
	"slices"

	"tabellion/api"
	"tabellion/btree"
	"tabellion/heap"
	"tabellion/keycode"
	"tabellion/node"
	"tabellion/schema"
	"tabellion/value"
	"tabellion/version"
)

// keyOf returns the key of a row in an index.
func keyOf(i api.Index, data api.Row) (string, api.Errno) {
	var key api.Row
	for _, at := range i.Cols {
		if at < 0 || at >= len(data) {
			return "", api.ErrCount
		}
		key = append(key, data[at])
	}
	s := keycode.Put(key)
	if len(s) > api.MaxKey {
		return "", api.ErrLong
	}
	return s, api.OK
}

// Put stores a version of a row and its entries.
func Put(e api.Engine, txn int, table string, v api.Version) (api.Engine, api.Errno) {
	t, ok := schema.Find(e.Cat, table)
	if !ok {
		return e, api.ErrName
	}
	rec, err := version.Put(v)
	if err != api.OK {
		return e, err
	}
	indexes := schema.Indexes(e.Cat, table)
	var keys []string
	for _, i := range indexes {
		key, err := keyOf(i, v.Data)
		if err != api.OK {
			return e, err
		}
		keys = append(keys, key)
	}
	var at api.Rid
	if e.Store, at, err = heap.Insert(e.Store, txn, root(e, t.Id), rec); err != api.OK {
		return e, err
	}
	for n, i := range indexes {
		if e.Store, err = btree.Put(e.Store, txn, root(e, i.Id), api.Entry{Key: keys[n], Rid: at}); err != api.OK {
			return e, err
		}
	}
	return e, api.OK
}

// Close ends a version.
func Close(e api.Engine, txn int, h api.Held, to int) (api.Engine, api.Errno) {
	h.V.To = to
	rec, err := version.Put(h.V)
	if err != api.OK {
		return e, err
	}
	e.Store, err = heap.Set(e.Store, txn, h.Rid, rec)
	return e, err
}

// Erase removes a version and its entries.
func Erase(e api.Engine, txn int, table string, h api.Held) (api.Engine, api.Errno) {
	var err api.Errno
	if e.Store, err = heap.Cut(e.Store, txn, h.Rid); err != api.OK {
		return e, err
	}
	for _, i := range schema.Indexes(e.Cat, table) {
		key, err := keyOf(i, h.V.Data)
		if err != api.OK {
			return e, err
		}
		if e.Store, err = btree.Cut(e.Store, txn, root(e, i.Id), api.Entry{Key: key, Rid: h.Rid}); err != api.OK {
			return e, err
		}
	}
	return e, api.OK
}

// span is a range of keys as bytes: not less than from, and less than to if that is not empty.
type span struct {
	from, to string
	none     bool // there is no such key
}

// spanOf returns the keys that lie within bounds.
func spanOf(lo, hi api.Bound) span {
	var s span
	if lo.Is {
		s.from = keycode.Put(lo.Key)
		if lo.Open {
			// All keys that begin with the bound's are excluded; without values, those are all keys.
			var ok bool
			s.from, ok = keycode.After(s.from)
			s.none = s.none || !ok
		}
	}
	if hi.Is {
		s.to = keycode.Put(hi.Key)
		if hi.Open {
			s.none = s.none || s.to == ""
		} else {
			s.to, _ = keycode.After(s.to)
		}
	}
	return s
}

// Seek returns the versions that a snapshot sees and whose keys in an index lie within bounds.
func Seek(e api.Engine, index string, lo, hi api.Bound, snap int) (api.Engine, []api.Held, api.Errno) {
	at := slices.IndexFunc(e.Cat.Indexes, func(i api.Index) bool { return i.Name == index })
	if at < 0 {
		return e, nil, api.ErrName
	}
	if lo.Is && !value.Rights(lo.Key) || hi.Is && !value.Rights(hi.Key) {
		return e, nil, api.OK
	}
	keys := spanOf(lo, hi)
	if keys.none {
		return e, nil, api.OK
	}
	s, entries, err := btree.Range(e.Store, root(e, e.Cat.Indexes[at].Id), keys.from, keys.to)
	var l []api.Held
	for i := 0; i < len(entries) && err == api.OK; i++ {
		var rec string
		var v api.Version
		if s, rec, err = heap.Get(s, entries[i].Rid); err == api.OK {
			v, err = version.Get(rec)
		}
		if err == api.OK && version.Seen(v, snap) {
			l = append(l, api.Held{V: v, Rid: entries[i].Rid})
		}
	}
	e, err = settle(e, s, err)
	if err != api.OK {
		return e, nil, err
	}
	return e, l, api.OK
}

// Check reports whether the tables and indexes are as they must be.
func Check(e api.Engine) (api.Engine, bool) {
	if !schema.Right(e.Cat) {
		return e, false
	}
	for _, t := range e.Cat.Tables {
		var l []api.Held
		var err api.Errno
		if e, l, err = Load(e, t.Name); err != api.OK {
			return e, false
		}
		for _, i := range schema.Indexes(e.Cat, t.Name) {
			var ok bool
			if e, ok = checkIndex(e, i, l); !ok {
				return e, false
			}
		}
	}
	return e, true
}

// checkIndex reports whether an index is a valid tree with exactly the entries of its table's versions.
func checkIndex(e api.Engine, i api.Index, l []api.Held) (api.Engine, bool) {
	s, ok, err := btree.Check(e.Store, root(e, i.Id))
	if e, err = settle(e, s, err); err != api.OK || !ok {
		return e, false
	}
	s, entries, err := btree.Range(e.Store, root(e, i.Id), "", "")
	if e, err = settle(e, s, err); err != api.OK {
		return e, false
	}
	var want []api.Entry
	for _, h := range l {
		key, err := keyOf(i, h.V.Data)
		if err != api.OK {
			return e, false
		}
		want = append(want, api.Entry{Key: key, Rid: h.Rid})
	}
	slices.SortFunc(want, func(a, b api.Entry) int {
		if node.Less(a, b) {
			return -1
		}
		return 1
	})
	return e, slices.Equal(entries, want)
}
