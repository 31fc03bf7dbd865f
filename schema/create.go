package schema

import (
	"slices"

	"tabellion/api"
	"tabellion/clone"
	"tabellion/syntax"
)

// Create adds the table that a statement creates, with the indexes of its keys.
func Create(c api.Catalog, s api.Stmt) (api.Catalog, api.Errno) {
	out := clone.Catalog(c)
	if !Right(c) || !syntax.Stmt(s) || s.Kind != api.SCreate {
		return out, api.ErrArg
	}
	if repeated(c, s) {
		return out, api.ErrTwice
	}
	next := c.Next + 1 + len(s.Keys)
	if len(s.Cols) > api.MaxCols || len(c.Tables) >= api.MaxTables || len(c.Indexes)+len(s.Keys) > api.MaxIndexes || next > mostIds {
		return out, api.ErrFull
	}
	t, indexes, err := build(c, s)
	if err != api.OK {
		return out, err
	}
	out.Tables = append(out.Tables, t)
	out.Indexes = append(out.Indexes, indexes...)
	out.Next = next
	return out, api.OK
}

// build makes a table and the indexes of its keys, with the numbers from c's next one on.
func build(c api.Catalog, s api.Stmt) (api.Table, []api.Index, api.Errno) {
	t := api.Table{Name: s.Table, Id: c.Next, Cols: clone.Flat(s.Cols), Checks: clone.Exprs(s.Checks)}
	var indexes []api.Index
	for i, k := range s.Keys {
		cols, ok := positions(s.Cols, k.Names)
		if !ok {
			return t, nil, api.ErrName
		}
		id := c.Next + 1 + i
		t.Keys = append(t.Keys, api.Key{Primary: k.Primary, Cols: cols, Index: id})
		indexes = append(indexes, api.Index{Name: keyName(s.Table, i), Id: id, Table: s.Table, Cols: clone.Flat(cols), Unique: true})
	}
	for _, r := range s.Refs {
		ref, err := reference(c, t, r)
		if err != api.OK {
			return t, nil, err
		}
		t.Refs = append(t.Refs, ref)
	}
	return t, indexes, api.OK
}

// repeated reports whether a statement names something twice that may be there only once.
func repeated(c api.Catalog, s api.Stmt) bool {
	if _, ok := find(c, s.Table); ok {
		return true
	}
	var cols []string
	for _, d := range s.Cols {
		cols = append(cols, d.Name)
	}
	if repeats(cols) {
		return true
	}
	primaries := 0
	for i, k := range s.Keys {
		if k.Primary {
			primaries++
		}
		if repeats(k.Names) || hasIndex(c, keyName(s.Table, i)) {
			return true
		}
	}
	return primaries > 1 || slices.ContainsFunc(s.Refs, func(r api.RefDef) bool { return repeats(r.Names) })
}

// reference returns a reference of the table t that is being created.
func reference(c api.Catalog, t api.Table, r api.RefDef) (api.Ref, api.Errno) {
	cols, ok := positions(t.Cols, r.Names)
	if !ok {
		return api.Ref{}, api.ErrName
	}
	other := t
	if r.Table != t.Name {
		other, ok = find(c, r.Table)
	}
	if !ok {
		return api.Ref{}, api.ErrName
	}
	to, ok := positions(other.Cols, r.To)
	if !ok {
		return api.Ref{}, api.ErrName
	}
	if len(cols) != len(to) {
		return api.Ref{}, api.ErrCount
	}
	if !isKey(other, to) {
		return api.Ref{}, api.ErrNone
	}
	if !sameTypes(t, cols, other, to) {
		return api.Ref{}, api.ErrType
	}
	return api.Ref{Cols: cols, Table: r.Table, To: to}, api.OK
}

// isKey reports whether a table has a key of exactly these columns.
func isKey(t api.Table, cols []int) bool {
	return slices.ContainsFunc(t.Keys, func(k api.Key) bool { return slices.Equal(k.Cols, cols) })
}

// sameTypes reports whether as many existing columns of two tables have the same types.
func sameTypes(t api.Table, cols []int, other api.Table, to []int) bool {
	for i := range cols {
		if t.Cols[cols[i]].Type != other.Cols[to[i]].Type {
			return false
		}
	}
	return true
}
