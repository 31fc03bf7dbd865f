package syntax

import (
	"slices"

	"tabellion/api"
)

// SameExpr reports whether a and b are equal.
func SameExpr(a, b api.Expr) bool {
	return a.Op == b.Op && a.V == b.V && a.Table == b.Table && a.Name == b.Name && a.Distinct == b.Distinct &&
		sameExprs(a.Kids, b.Kids) && slices.EqualFunc(a.Sub, b.Sub, SameQuery)
}

func sameExprs(a, b []api.Expr) bool { return slices.EqualFunc(a, b, SameExpr) }

// SameQuery reports whether a and b are equal.
func SameQuery(a, b api.Query) bool {
	return a.Op == b.Op && a.All == b.All && a.Distinct == b.Distinct && a.Limit == b.Limit && a.Skip == b.Skip &&
		slices.Equal(a.Order, b.Order) && slices.EqualFunc(a.Kids, b.Kids, SameQuery) &&
		slices.EqualFunc(a.Items, b.Items, sameItem) && slices.EqualFunc(a.From, b.From, sameFrom) &&
		sameExprs(a.Where, b.Where) && sameExprs(a.Group, b.Group) && sameExprs(a.Having, b.Having)
}

func sameItem(a, b api.Item) bool {
	return a.Star == b.Star && a.Table == b.Table && a.As == b.As && SameExpr(a.E, b.E)
}

func sameFrom(a, b api.From) bool {
	return a.Kind == b.Kind && a.Name == b.Name && a.As == b.As && slices.EqualFunc(a.Sub, b.Sub, SameQuery) &&
		slices.EqualFunc(a.Kids, b.Kids, sameFrom) && sameExprs(a.On, b.On)
}

// SameStmt reports whether a and b are equal.
func SameStmt(a, b api.Stmt) bool {
	return a.Kind == b.Kind && a.Table == b.Table && a.Name == b.Name && a.Unique == b.Unique &&
		slices.Equal(a.Cols, b.Cols) && slices.Equal(a.Names, b.Names) && slices.EqualFunc(a.Keys, b.Keys, sameKey) &&
		slices.EqualFunc(a.Refs, b.Refs, sameRef) && sameExprs(a.Checks, b.Checks) &&
		slices.EqualFunc(a.Rows, b.Rows, sameExprs) && slices.EqualFunc(a.Sets, b.Sets, sameAssign) &&
		sameExprs(a.Where, b.Where) && slices.EqualFunc(a.Q, b.Q, SameQuery)
}

func sameKey(a, b api.KeyDef) bool { return a.Primary == b.Primary && slices.Equal(a.Names, b.Names) }

func sameRef(a, b api.RefDef) bool {
	return a.Table == b.Table && slices.Equal(a.Names, b.Names) && slices.Equal(a.To, b.To)
}

func sameAssign(a, b api.Assign) bool { return a.Name == b.Name && SameExpr(a.E, b.E) }
