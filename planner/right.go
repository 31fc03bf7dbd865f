package planner

import (
	"slices"

	"tabellion/algebra"
	"tabellion/api"
	"tabellion/value"
)

// kidsOf returns the number of kids of an Op; -1 if there is no such Op.
func kidsOf(op int) int {
	switch op {
	case api.PScan, api.PSeek, api.PRows:
		return 0
	case api.PFilter, api.PProject, api.PGroup, api.PDistinct, api.PSort, api.PLimit, api.PPick:
		return 1
	case api.PNest, api.PHash, api.PMerge, api.PLeft, api.PHashLeft, api.PUnion, api.PInter, api.PExcept:
		return 2
	}
	return -1
}

// Right reports whether a plan is valid where the rows around it have as many columns as env states.
func Right(p api.Plan, env []int) bool {
	if p.Est < 0 || p.Est > api.MaxCost || p.Cost < 0 || p.Cost > api.MaxCost || len(p.Kids) != kidsOf(p.Op) {
		return false
	}
	if slices.ContainsFunc(p.Kids, func(k api.Plan) bool { return !Right(k, env) }) {
		return false
	}
	switch p.Op {
	case api.PScan:
		return p.Table != "" && rightTerms(p.Terms, len(p.Cols), env)
	case api.PSeek:
		return p.Table != "" && p.Index != "" && rightTerms(p.Terms, len(p.Cols), env) && value.Rights(p.Lo.Key) && value.Rights(p.Hi.Key)
	case api.PFilter:
		return len(p.Cols) == len(p.Kids[0].Cols) && rightTerms(p.Terms, len(p.Cols), env)
	case api.PNest, api.PLeft:
		return rightJoin(p, env)
	case api.PHash, api.PMerge, api.PHashLeft:
		return rightJoin(p, env) && len(p.LKeys) > 0 && len(p.LKeys) == len(p.RKeys) &&
			rightTerms(p.LKeys, len(p.Kids[0].Cols), env) && rightTerms(p.RKeys, len(p.Kids[1].Cols), env)
	case api.PPick:
		width := len(p.Kids[0].Cols)
		return len(p.Cols) == len(p.Out) && !slices.ContainsFunc(p.Out, func(at int) bool { return at < 0 || at >= width })
	}
	return algebra.Rel(relation(p), env)
}

// rightTerms reports whether terms are valid where the current row has so many columns.
func rightTerms(l []api.Term, width int, env []int) bool {
	inner := append([]int{width}, env...)
	return !slices.ContainsFunc(l, func(t api.Term) bool { return !algebra.Term(t, inner) })
}

func rightJoin(p api.Plan, env []int) bool {
	width := len(p.Kids[0].Cols) + len(p.Kids[1].Cols)
	return len(p.Cols) == width && rightTerms(p.Terms, width, env)
}

// relation returns the relation whose operator is that of a plan, over rows with the columns of the plan's kids. The
// conditions that such a plan must satisfy are those of the relation.
func relation(p api.Plan) api.Rel {
	r := api.Rel{Cols: p.Cols}
	for _, k := range p.Kids {
		r.Kids = append(r.Kids, api.Rel{Op: api.RRows, Cols: k.Cols})
	}
	switch p.Op {
	case api.PRows:
		r.Op, r.Rows = api.RRows, p.Rows
	case api.PProject:
		r.Op, r.Terms = api.RProject, p.Terms
	case api.PGroup:
		r.Op, r.Terms, r.Aggs = api.RGroup, p.Terms, p.Aggs
	case api.PDistinct:
		r.Op = api.RDistinct
	case api.PSort:
		r.Op, r.Keys = api.RSort, p.Keys
	case api.PLimit:
		r.Op, r.Limit, r.Skip = api.RLimit, p.Limit, p.Skip
	case api.PUnion:
		r.Op, r.All = api.RUnion, p.All
	case api.PInter:
		r.Op, r.All = api.RInter, p.All
	case api.PExcept:
		r.Op, r.All = api.RExcept, p.All
	}
	return r
}
