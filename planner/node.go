package planner

import (
	"tabellion/api"
	"tabellion/conj"
	"tabellion/cost"
	"tabellion/guess"
)

// node returns the plan of x over plans of its kids.
func node(x api.Rel, kids []api.Plan) api.Plan {
	p := api.Plan{Cols: x.Cols, Kids: kids}
	switch {
	case x.Op == api.RRows && len(kids) == 0:
		p.Op, p.Rows = api.PRows, x.Rows
		p.Est, p.Cost = len(x.Rows), cost.Each(len(x.Rows), 0)
	case len(kids) == 1:
		single(&p, x, kids[0])
	case len(kids) == 2:
		double(&p, x, kids[0], kids[1])
	}
	return p
}

// single completes a plan with one kid.
func single(p *api.Plan, x api.Rel, a api.Plan) {
	p.Est, p.Cost = a.Est, cost.Each(a.Est, a.Cost)
	switch x.Op {
	case api.RFilter:
		p.Op, p.Terms = api.PFilter, parts(x)
		p.Est = guess.Rows(a.Est, part(p.Terms))
	case api.RProject:
		p.Op, p.Terms = api.PProject, x.Terms
	case api.RGroup:
		p.Op, p.Terms, p.Aggs = api.PGroup, x.Terms, x.Aggs
		if len(x.Terms) == 0 {
			p.Est = 1
		}
	case api.RDistinct:
		p.Op = api.PDistinct
	case api.RSort:
		p.Op, p.Keys = api.PSort, x.Keys
		p.Cost = cost.Sort(a.Est, a.Cost)
	case api.RLimit:
		p.Op, p.Limit, p.Skip = api.PLimit, x.Limit, x.Skip
		p.Est, p.Cost = limited(a.Est, x.Limit, x.Skip), a.Cost
	}
}

// limited returns how many of n rows remain.
func limited(n, limit, skip int) int {
	n = max(n-max(skip, 0), 0)
	if limit >= 0 {
		n = min(n, limit)
	}
	return n
}

// double completes a plan with two kids.
func double(p *api.Plan, x api.Rel, a, b api.Plan) {
	switch x.Op {
	case api.RJoin:
		p.Op, p.Terms = api.PNest, parts(x)
		p.Est = guess.Rows(cost.Mul(a.Est, b.Est), part(p.Terms))
		p.Cost = cost.Nest(a.Est, a.Cost, b.Cost)
		return
	case api.RLeft:
		*p = left(x, a, b)
		return
	}
	p.All = x.All
	p.Cost = cost.Add(cost.Add(a.Cost, b.Cost), cost.Add(a.Est, b.Est))
	switch x.Op {
	case api.RUnion:
		p.Op, p.Est = api.PUnion, cost.Add(a.Est, b.Est)
	case api.RInter:
		p.Op, p.Est = api.PInter, min(a.Est, b.Est)
	case api.RExcept:
		p.Op, p.Est = api.PExcept, a.Est
	}
}

// left returns the plan of a left join.
func left(x api.Rel, a, b api.Plan) api.Plan {
	p := nestedLeft(x, a, b)
	hash := p
	hash.Op, hash.Terms = api.PHashLeft, nil
	hash.Cost = cost.Hash(a.Est, a.Cost, b.Est, b.Cost)
	for _, t := range p.Terms {
		l, r, ok := conj.Pair(t, len(a.Cols))
		if ok {
			hash.LKeys, hash.RKeys = append(hash.LKeys, l), append(hash.RKeys, r)
		} else {
			hash.Terms = append(hash.Terms, t)
		}
	}
	if len(hash.LKeys) == 0 {
		return p
	}
	return hash
}

// nestedLeft returns the plan of a left join by nested loops.
func nestedLeft(x api.Rel, a, b api.Plan) api.Plan {
	terms := parts(x)
	return api.Plan{
		Op: api.PLeft, Cols: x.Cols, Kids: []api.Plan{a, b}, Terms: terms,
		Est:  max(a.Est, guess.Rows(cost.Mul(a.Est, b.Est), part(terms))),
		Cost: cost.Nest(a.Est, a.Cost, b.Cost),
	}
}
