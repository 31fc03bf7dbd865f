package naive

import (
	"slices"

	"tabellion/agg"
	"tabellion/api"
	"tabellion/rowkey"
	"tabellion/value"
)

// run returns the rows of a relation.
func (w world) run(r api.Rel, env []api.Row) []api.Row {
	switch r.Op {
	case api.RTable:
		return w.table(r.Table)
	case api.RRows:
		return r.Rows
	case api.RFilter:
		return w.filter(r, env)
	case api.RProject:
		return w.project(r, env)
	case api.RJoin, api.RLeft:
		return w.join(r, env)
	case api.RGroup:
		return w.group(r, env)
	case api.RDistinct:
		return distinct(w.kid(r, 0, env))
	case api.RUnion, api.RInter, api.RExcept:
		return combine(r, w.kid(r, 0, env), w.kid(r, 1, env))
	case api.RSort:
		return sorted(w.kid(r, 0, env), r.Keys)
	case api.RLimit:
		return limited(w.kid(r, 0, env), r.Limit, r.Skip)
	}
	return nil
}

// kid returns the rows of a kid; there are none if it is missing.
func (w world) kid(r api.Rel, i int, env []api.Row) []api.Row {
	if i >= len(r.Kids) {
		return nil
	}
	return w.run(r.Kids[i], env)
}

func (w world) filter(r api.Rel, env []api.Row) []api.Row {
	var out []api.Row
	inner := around(env)
	for _, row := range w.kid(r, 0, env) {
		inner[0] = row
		if w.holds(r.Terms, inner) {
			out = append(out, row)
		}
	}
	return out
}

func (w world) project(r api.Rel, env []api.Row) []api.Row {
	var out []api.Row
	inner := around(env)
	for _, row := range w.kid(r, 0, env) {
		inner[0] = row
		out = append(out, w.values(r.Terms, inner))
	}
	return out
}

func (w world) join(r api.Rel, env []api.Row) []api.Row {
	var out []api.Row
	left, right := w.kid(r, 0, env), w.kid(r, 1, env)
	inner := around(env)
	for _, a := range left {
		alone := true
		for _, b := range right {
			inner[0] = slices.Concat(a, b)
			if w.holds(r.Terms, inner) {
				out = append(out, inner[0])
				alone = false
			}
		}
		if alone && r.Op == api.RLeft && len(r.Kids) > 1 {
			nulls := make(api.Row, len(r.Kids[1].Cols))
			out = append(out, slices.Concat(a, nulls))
		}
	}
	return out
}

// part is the rows of a group, and the values that they have in common.
type part struct {
	key  api.Row
	rows []api.Row
}

func (w world) group(r api.Rel, env []api.Row) []api.Row {
	inner := around(env)
	var parts []part
	known := map[string]int{}
	if len(r.Terms) == 0 {
		parts = []part{{}}
		known[rowkey.Of(nil)] = 0
	}
	for _, row := range w.kid(r, 0, env) {
		inner[0] = row
		key := w.values(r.Terms, inner)
		i, ok := known[rowkey.Of(key)]
		if !ok {
			i = len(parts)
			known[rowkey.Of(key)] = i
			parts = append(parts, part{key: key})
		}
		parts[i].rows = append(parts[i].rows, row)
	}
	var out []api.Row
	for _, p := range parts {
		row := p.key
		for _, a := range r.Aggs {
			row = append(row, w.aggregate(a, p.rows, inner))
		}
		out = append(out, row)
	}
	return out
}

// aggregate returns an aggregate over rows; inner is where a row is put to evaluate a term.
func (w world) aggregate(a api.Agg, rows, inner []api.Row) api.Value {
	l := make([]api.Value, len(rows))
	for i, row := range rows {
		inner[0] = row
		if len(a.T) > 0 {
			l[i] = w.term(a.T[0], inner)
		}
	}
	return agg.Run(a, l)
}

func distinct(l []api.Row) []api.Row {
	var out []api.Row
	seen := map[string]bool{}
	for _, row := range l {
		key := rowkey.Of(row)
		if !seen[key] {
			seen[key] = true
			out = append(out, row)
		}
	}
	return out
}

// combine returns the rows of a union, an intersection or a difference.
func combine(r api.Rel, left, right []api.Row) []api.Row {
	if r.Op == api.RUnion {
		all := slices.Concat(left, right)
		if r.All {
			return all
		}
		return distinct(all)
	}
	if !r.All {
		left = distinct(left)
	}
	remaining := map[string]int{}
	for _, row := range right {
		remaining[rowkey.Of(row)]++
	}
	var both, rest []api.Row
	for _, row := range left {
		key := rowkey.Of(row)
		if remaining[key] > 0 {
			remaining[key]--
			both = append(both, row)
		} else {
			rest = append(rest, row)
		}
	}
	if r.Op == api.RInter {
		return both
	}
	return rest
}

func sorted(l []api.Row, keys []api.By) []api.Row {
	out := slices.Clone(l)
	slices.SortStableFunc(out, func(a, b api.Row) int {
		for _, k := range keys {
			c := value.Order(at(a, k.At), at(b, k.At))
			if k.Down {
				c = -c
			}
			if c != 0 {
				return c
			}
		}
		return value.Orders(a, b)
	})
	return out
}

func limited(l []api.Row, limit, skip int) []api.Row {
	l = l[min(max(skip, 0), len(l)):]
	if limit >= 0 && limit < len(l) {
		l = l[:limit]
	}
	return l
}
