// Package fitting tells which writes of a transaction fit a table: the others were made for another table of that name.
package fitting

import (
	"tabellion/api"
	"tabellion/types"
)

// Fits reports whether a write fits a table.
func Fits(t api.Table, w api.Write) bool {
	if w.Kind == api.WDelete {
		return true
	}
	if len(w.Data) != len(t.Cols) {
		return false
	}
	for i, v := range w.Data {
		if types.Fits(v, t.Cols[i]) != api.OK {
			return false
		}
	}
	return true
}

// Of returns the writes of a table that fit it.
func Of(t api.Table, l []api.Write) []api.Write {
	var out []api.Write
	for _, w := range l {
		if w.Table == t.Name && Fits(t, w) {
			out = append(out, w)
		}
	}
	return out
}
