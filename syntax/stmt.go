package syntax

import "tabellion/api"

// The fields of a statement that may be filled.
const (
	hasOwner = 1 << iota // Table
	hasIndex             // Name
	hasCols
	hasNames
	hasUnique
	hasKeys
	hasRefs
	hasChecks
	hasRows
	hasSets
	hasWhere
	hasQuery
)

// stmtFields returns the fields of s that are filled.
func stmtFields(s api.Stmt) int {
	return when(s.Table != "", hasOwner) | when(s.Name != "", hasIndex) | when(len(s.Cols) > 0, hasCols) |
		when(len(s.Names) > 0, hasNames) | when(s.Unique, hasUnique) | when(len(s.Keys) > 0, hasKeys) |
		when(len(s.Refs) > 0, hasRefs) | when(len(s.Checks) > 0, hasChecks) | when(len(s.Rows) > 0, hasRows) |
		when(len(s.Sets) > 0, hasSets) | when(len(s.Where) > 0, hasWhere) | when(len(s.Q) > 0, hasQuery)
}

// rightStmt reports whether s is valid but for the limits.
func rightStmt(s api.Stmt) bool {
	allowed, ok := stmtForm(s)
	return ok && stmtFields(s)&^allowed == 0
}

// stmtForm returns the fields that s may have, and whether these are as its Kind requires.
func stmtForm(s api.Stmt) (int, bool) {
	switch s.Kind {
	case api.SCreate:
		return hasOwner | hasCols | hasKeys | hasRefs | hasChecks, rightCreate(s)
	case api.SIndex:
		return hasIndex | hasOwner | hasNames | hasUnique, isName(s.Name) && isName(s.Table) && areNames(s.Names, 1, api.MaxCols)
	case api.SDrop:
		return hasOwner | hasIndex, isName(s.Table) && s.Name == "" || isName(s.Name) && s.Table == ""
	case api.SInsert:
		return hasOwner | hasNames | hasRows | hasQuery, isName(s.Table) && areNames(s.Names, 0, api.MaxCols) && rightRows(s)
	case api.SUpdate:
		return hasOwner | hasSets | hasWhere, isName(s.Table) && len(s.Sets) >= 1 && len(s.Sets) <= api.MaxCols &&
			all(s.Sets, rightAssign) && rightWhere(s)
	case api.SDelete:
		return hasOwner | hasWhere, isName(s.Table) && rightWhere(s)
	case api.SQuery, api.SExplain:
		return hasQuery, len(s.Q) == 1 && all(s.Q, rightQuery)
	case api.SBegin, api.SCommit, api.SRollback, api.SAnalyze, api.SVacuum, api.SCheck:
		return 0, true
	}
	return 0, false
}

func rightCreate(s api.Stmt) bool {
	return isName(s.Table) && len(s.Cols) >= 1 && len(s.Cols) <= api.MaxCols && all(s.Cols, rightCol) &&
		len(s.Keys) <= api.MaxList && all(s.Keys, rightKey) && len(s.Refs) <= api.MaxList && all(s.Refs, rightRef) &&
		len(s.Checks) <= api.MaxList && all(s.Checks, rightExpr)
}

func rightCol(c api.ColDef) bool {
	return isName(c.Name) && (c.Type == api.VBool || c.Type == api.VInt || c.Type == api.VText)
}

func rightKey(k api.KeyDef) bool { return areNames(k.Names, 1, api.MaxCols) }

func rightRef(r api.RefDef) bool {
	return areNames(r.Names, 1, api.MaxCols) && isName(r.Table) && areNames(r.To, 1, api.MaxCols)
}

// rightRows reports whether an insert has either one query or rows.
func rightRows(s api.Stmt) bool {
	if len(s.Q) > 0 {
		return len(s.Q) == 1 && len(s.Rows) == 0 && rightQuery(s.Q[0])
	}
	return len(s.Rows) >= 1 && len(s.Rows) <= api.MaxList && all(s.Rows, rightRow)
}

func rightRow(l []api.Expr) bool { return len(l) >= 1 && len(l) <= api.MaxCols && all(l, rightExpr) }

func rightAssign(a api.Assign) bool { return isName(a.Name) && rightExpr(a.E) }

func rightWhere(s api.Stmt) bool { return len(s.Where) <= 1 && all(s.Where, rightExpr) }
