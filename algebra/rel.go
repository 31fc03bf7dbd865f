package algebra

import (
	"slices"

	"tabellion/api"
	"tabellion/value"
)

// The fields of a relation that may be filled.
const (
	hasTable = 1 << iota
	hasRows
	hasTerms
	hasAggs
	hasKeys
	hasAll
	hasLimits
)

func when(filled bool, bit int) int {
	if filled {
		return bit
	}
	return 0
}

// fields returns the fields of r that are filled.
func fields(r api.Rel) int {
	return when(r.Table != "", hasTable) | when(len(r.Rows) > 0, hasRows) | when(len(r.Terms) > 0, hasTerms) |
		when(len(r.Aggs) > 0, hasAggs) | when(len(r.Keys) > 0, hasKeys) | when(r.All, hasAll) |
		when(r.Limit != 0 || r.Skip != 0, hasLimits)
}

// relForm returns the number of kids of an Op, the fields that it uses, and whether it exists.
func relForm(op int) (kids, allowed int, ok bool) {
	switch op {
	case api.RTable:
		return 0, hasTable, true
	case api.RRows:
		return 0, hasRows, true
	case api.RFilter, api.RProject:
		return 1, hasTerms, true
	case api.RJoin, api.RLeft:
		return 2, hasTerms, true
	case api.RGroup:
		return 1, hasTerms | hasAggs, true
	case api.RDistinct:
		return 1, 0, true
	case api.RUnion, api.RInter, api.RExcept:
		return 2, hasAll, true
	case api.RSort:
		return 1, hasKeys, true
	case api.RLimit:
		return 1, hasLimits, true
	}
	return 0, 0, false
}

// Width returns the number of columns of r.
func Width(r api.Rel) int { return width(r, Width) }

// width returns the number of columns of r, where of returns those of its kids.
func width(r api.Rel, of func(api.Rel) int) int {
	kids, _, ok := relForm(r.Op)
	if !ok || len(r.Kids) < kids {
		return 0
	}
	switch r.Op {
	case api.RTable, api.RRows:
		return len(r.Cols)
	case api.RProject:
		return len(r.Terms)
	case api.RGroup:
		return len(r.Terms) + len(r.Aggs)
	case api.RJoin, api.RLeft:
		return of(r.Kids[0]) + of(r.Kids[1])
	}
	return of(r.Kids[0])
}

// stated returns the number of columns that a valid relation states, which is its width.
func stated(r api.Rel) int { return len(r.Cols) }

// Rel reports whether r is valid where the rows around it have as many columns as env states.
func Rel(r api.Rel, env []int) bool {
	kids, allowed, ok := relForm(r.Op)
	if !ok || len(r.Kids) != kids || fields(r)&^allowed != 0 {
		return false
	}
	if slices.ContainsFunc(r.Kids, func(k api.Rel) bool { return !Rel(k, env) }) || len(r.Cols) != width(r, stated) {
		return false
	}
	inner := 0
	for _, k := range r.Kids {
		inner += stated(k)
	}
	return rightTerms(r, append([]int{inner}, env...)) && rightFields(r)
}

// rightTerms reports whether the terms of r are valid under env.
func rightTerms(r api.Rel, env []int) bool {
	terms := slices.Clone(r.Terms)
	for _, a := range r.Aggs {
		if !rightAgg(a) {
			return false
		}
		terms = append(terms, a.T...)
	}
	return !slices.ContainsFunc(terms, func(t api.Term) bool { return !Term(t, env) })
}

// rightAgg reports whether an aggregate is valid but for its term.
func rightAgg(a api.Agg) bool {
	switch a.Name {
	case "count":
		return len(a.T) == 1 || len(a.T) == 0 && !a.Distinct
	case "sum", "min", "max":
		return len(a.T) == 1
	}
	return false
}

// rightFields reports whether the fields of r that its Op uses are as they must be, apart from kids and terms.
func rightFields(r api.Rel) bool {
	switch r.Op {
	case api.RTable:
		return r.Table != ""
	case api.RRows:
		return !slices.ContainsFunc(r.Rows, func(row api.Row) bool { return len(row) != len(r.Cols) || !value.Rights(row) })
	case api.RFilter, api.RLeft:
		return len(r.Terms) == 1
	case api.RJoin:
		return len(r.Terms) <= 1
	case api.RUnion, api.RInter, api.RExcept:
		return stated(r.Kids[0]) == stated(r.Kids[1])
	case api.RSort:
		return !slices.ContainsFunc(r.Keys, func(k api.By) bool { return k.At < 0 || k.At >= len(r.Cols) })
	case api.RLimit:
		return r.Limit >= -1 && r.Limit <= api.MaxNum && r.Skip >= 0 && r.Skip <= api.MaxNum
	}
	return true
}
