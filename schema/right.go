package schema

import (
	"slices"

	"tabellion/api"
	"tabellion/syntax"
)

// Right reports whether a catalog is valid.
func Right(c api.Catalog) bool {
	if len(c.Tables) > api.MaxTables || len(c.Indexes) > api.MaxIndexes || c.Next < 1 || c.Next > mostIds || !rightIds(c) {
		return false
	}
	var tables, indexes []string
	for _, t := range c.Tables {
		tables = append(tables, t.Name)
	}
	for _, i := range c.Indexes {
		indexes = append(indexes, i.Name)
	}
	if repeats(tables) || repeats(indexes) {
		return false
	}
	for _, t := range c.Tables {
		if !rightTable(c, t) {
			return false
		}
	}
	for _, i := range c.Indexes {
		if !rightIndex(c, i) {
			return false
		}
	}
	return true
}

func rightIds(c api.Catalog) bool {
	var tables, indexes []int
	for _, t := range c.Tables {
		tables = append(tables, t.Id)
	}
	for _, i := range c.Indexes {
		indexes = append(indexes, i.Id)
	}
	all := slices.Concat(tables, indexes)
	return slices.IsSorted(tables) && slices.IsSorted(indexes) && !repeats(all) &&
		!slices.ContainsFunc(all, func(id int) bool { return id < 1 || id >= c.Next })
}

// isName reports whether s is a name: an expression may be a column of that name.
func isName(s string) bool { return syntax.Expr(api.Expr{Op: api.ECol, Name: s}) }

// exist reports whether cols are positions of columns of t, at least one and none twice.
func exist(t api.Table, cols []int) bool {
	return len(cols) > 0 && !slices.ContainsFunc(cols, func(at int) bool { return at < 0 || at >= len(t.Cols) }) && !repeats(cols)
}

func rightTable(c api.Catalog, t api.Table) bool {
	if !isName(t.Name) || len(t.Cols) < 1 || len(t.Cols) > api.MaxCols {
		return false
	}
	var cols []string
	for _, d := range t.Cols {
		if !isName(d.Name) || d.Type != api.VBool && d.Type != api.VInt && d.Type != api.VText {
			return false
		}
		cols = append(cols, d.Name)
	}
	if repeats(cols) || !rightKeys(c, t) {
		return false
	}
	for _, r := range t.Refs {
		if !rightRef(c, t, r) {
			return false
		}
	}
	return !slices.ContainsFunc(t.Checks, func(e api.Expr) bool { return !syntax.Expr(e) })
}

func rightKeys(c api.Catalog, t api.Table) bool {
	primaries := 0
	for i, k := range t.Keys {
		if k.Primary {
			primaries++
		}
		if !exist(t, k.Cols) || !hasKeyIndex(c, t, i) {
			return false
		}
	}
	return primaries <= 1
}

// hasKeyIndex reports whether the index of a table's key exists and is as it must be.
func hasKeyIndex(c api.Catalog, t api.Table, at int) bool {
	k := t.Keys[at]
	return slices.ContainsFunc(c.Indexes, func(i api.Index) bool {
		return i.Id == k.Index && i.Table == t.Name && i.Unique && slices.Equal(i.Cols, k.Cols) && i.Name == keyName(t.Name, at)
	})
}

func rightRef(c api.Catalog, t api.Table, r api.Ref) bool {
	other, ok := find(c, r.Table)
	return ok && exist(t, r.Cols) && exist(other, r.To) && isKey(other, r.To) && len(r.Cols) == len(r.To) && sameTypes(t, r.Cols, other, r.To)
}

func rightIndex(c api.Catalog, i api.Index) bool {
	t, ok := find(c, i.Table)
	return ok && exist(t, i.Cols) && (isName(i.Name) || ofKey(c, i.Id))
}
