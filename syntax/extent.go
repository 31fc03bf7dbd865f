package syntax

import "tabellion/api"

// extent is the number of nodes of a tree and its depth.
type extent struct{ nodes, depth int }

func withinLimits(x extent) bool { return x.nodes <= api.MaxNodes && x.depth <= api.MaxDeep }

// beside returns the extent of parts that lie side by side.
func beside(parts ...extent) extent {
	var all extent
	for _, x := range parts {
		all.nodes += x.nodes
		all.depth = max(all.depth, x.depth)
	}
	return all
}

// node returns the extent of a node with these parts.
func node(parts ...extent) extent {
	all := beside(parts...)
	return extent{all.nodes + 1, all.depth + 1}
}

// each returns the extent of the elements of a list.
func each[T any](l []T, of func(T) extent) extent {
	var all extent
	for _, x := range l {
		all = beside(all, of(x))
	}
	return all
}

func exprs(l []api.Expr) extent { return each(l, exprExtent) }

func exprExtent(e api.Expr) extent { return node(exprs(e.Kids), each(e.Sub, queryExtent)) }

func itemExtent(i api.Item) extent {
	if i.Star {
		return extent{}
	}
	return exprExtent(i.E)
}

func queryExtent(q api.Query) extent {
	return node(each(q.Kids, queryExtent), each(q.Items, itemExtent), each(q.From, fromExtent), exprs(q.Where), exprs(q.Group),
		exprs(q.Having))
}

func fromExtent(f api.From) extent {
	return node(each(f.Sub, queryExtent), each(f.Kids, fromExtent), exprs(f.On))
}

func assignExtent(a api.Assign) extent { return exprExtent(a.E) }

func stmtExtent(s api.Stmt) extent {
	return beside(exprs(s.Checks), each(s.Rows, exprs), each(s.Sets, assignExtent), exprs(s.Where), each(s.Q, queryExtent))
}
