package planner

import (
	"fmt"
	"reflect"
	"strings"
	"testing"

	"tabellion/access"
	"tabellion/api"
	"tabellion/bind"
	"tabellion/conj"
	"tabellion/cost"
	"tabellion/graph"
	"tabellion/guess"
	"tabellion/order"
	"tabellion/parse"
	"tabellion/push"
	"tabellion/schema"
	"tabellion/stat"
	"tabellion/value"
)

func catalog(t *testing.T) api.Catalog {
	t.Helper()
	c := api.Catalog{Next: 1}
	for _, sql := range []string{
		"create table t (a int, b text, c int, unique (a))", "create table u (a int, d int)", "create table v (b text, e int)",
		"create index i on t (c, a)", "create index j on u (d)",
	} {
		s, _, err := parse.Stmt(sql)
		if err == api.OK && s.Kind == api.SCreate {
			c, err = schema.Create(c, s)
		} else if err == api.OK {
			c, err = schema.Index(c, s)
		}
		if err != api.OK {
			t.Fatal(sql, err)
		}
	}
	return c
}

// stats are those of a table t with 1000 rows and a table u with 40.
func stats() []api.Stat {
	var t, u []api.Row
	for i := range 1000 {
		t = append(t, api.Row{value.Num(i), value.Str("x"), value.Num(i / 4)})
	}
	for i := range 40 {
		u = append(u, api.Row{value.Num(i), value.Num(i % 20)})
	}
	return []api.Stat{stat.Of("t", t, 3, 50), stat.Of("u", u, 2, 3)}
}

func bound(t *testing.T, sql string) api.Rel {
	t.Helper()
	q, at, err := parse.Query(sql)
	if err != api.OK {
		t.Fatalf("%s: %d at %d", sql, err, at)
	}
	r, err := bind.Top(catalog(t), q)
	if err != api.OK {
		t.Fatalf("%s: %d", sql, err)
	}
	return r
}

var words = []string{
	"plan", "scan", "seek", "rows", "filter", "project", "nest", "hash", "merge", "left", "hashleft", "group", "distinct", "union", "inter", "except", "sort", "limit", "pick",
}

// show writes the shape of a plan.
func show(p api.Plan) string {
	s := words[p.Op]
	for _, x := range []string{p.Table, p.Index} {
		if x != "" {
			s += " " + x
		}
	}
	if len(p.Terms) > 0 && p.Op != api.PProject && p.Op != api.PGroup {
		s += fmt.Sprint(" ", len(p.Terms))
	}
	if len(p.LKeys) > 0 {
		s += fmt.Sprint(" on ", len(p.LKeys))
	}
	for _, k := range p.Kids {
		s += "(" + show(k) + ")"
	}
	return s
}

var samples = []struct{ sql, shape string }{
	{"select a from t where a = 1", "sort(project(seek t t_1 1))"},
	{"select a from t where c = 1 and a < 300 and b like 'x'", "sort(project(seek t i 3))"},
	{"select a from t where b = 'x'", "sort(project(scan t 1))"},
	{"select a from t", "sort(project(scan t))"},
	{"select * from v where e = 1 and b = 'x'", "sort(project(scan v 2))"},
	{"select 1", "sort(project(rows))"},
	{"select 1 where 1 = 2", "sort(project(rows))"},
	{"select a from t where 1 = 2", "sort(project(rows))"},
	{"select * from t join u on t.a = u.a", "sort(project(hash on 1(scan t)(scan u)))"},
	{"select * from u, t where t.a = u.a and u.d = 1 and t.c < 200", "sort(project(pick(hash on 1(scan t 1)(seek u j 1))))"},
	{"select * from u, v where d < 2", "sort(project(pick(nest(scan v)(seek u j 1))))"},
	{"select * from t left join u on t.a = u.a and t.c < u.d", "sort(project(hashleft 1 on 1(scan t)(scan u)))"},
	{"select * from t left join u on t.c < u.d", "sort(project(left 1(scan t)(scan u)))"},
	{"select * from t left join u on t.a = u.a where t.c = 1 and u.d is null", "sort(project(filter 1(hashleft on 1(seek t i 1)(scan u))))"},
	{"select c, count(*) from t group by c having count(*) > 1 and c = 3", "sort(project(filter 1(group(seek t i 1))))"},
	{"select count(*) from t", "sort(project(group(scan t)))"},
	{"select distinct c from t order by c desc limit 3 offset 2", "limit(sort(distinct(project(scan t))))"},
	{"select a from t union select d from u", "sort(union(project(scan t))(project(scan u)))"},
	{"select a from t intersect all select d from u where d = 1", "sort(inter(project(scan t))(project(seek u j 1)))"},
	{"select a from t except select d from u", "sort(except(project(scan t))(project(scan u)))"},
	{"select a from t where exists (select 1 from u where u.a = t.a and d = 1)", "sort(project(scan t 1))"},
	{"select x.a from (select a, c from t limit 5) as x where x.c = 1", "sort(project(filter 1(limit(sort(project(scan t))))))"},
	{"select x.n from (select a + 1 as n, c from t) as x where x.c = 1", "sort(project(project(seek t i 1)))"},
	{"select 1 from u, u as u2, u as u3, u as u4, u as u5, u as u6, u as u7, u as u8", "*"},
}

// check reports what is wrong with the numbers of a plan's node, given its kids.
func check(p api.Plan) string {
	for _, k := range p.Kids {
		if s := check(k); s != "" {
			return s
		}
	}
	var a, b api.Plan
	if len(p.Kids) > 0 {
		a = p.Kids[0]
	}
	if len(p.Kids) > 1 {
		b = p.Kids[1]
	}
	all := append([]api.Term{}, p.Terms...)
	for i := range p.LKeys {
		all = append(all, api.Term{Op: api.EEq, Kids: []api.Term{p.LKeys[i], p.RKeys[i]}, Type: api.VBool})
	}
	rows := api.Million
	if len(all) > 0 {
		rows = guess.Part(conj.Join(all), nil)
	}
	joined := guess.Rows(cost.Mul(a.Est, b.Est), rows)
	want := map[int][2]int{
		api.PRows: {len(p.Rows), len(p.Rows)}, api.PFilter: {guess.Rows(a.Est, rows), cost.Each(a.Est, a.Cost)}, api.PProject: {a.Est, cost.Each(a.Est, a.Cost)},
		api.PNest: {joined, cost.Nest(a.Est, a.Cost, b.Cost)}, api.PHash: {joined, cost.Hash(a.Est, a.Cost, b.Est, b.Cost)}, api.PMerge: {joined, cost.Merge(a.Est, a.Cost, b.Est, b.Cost)},
		api.PLeft: {max(a.Est, joined), cost.Nest(a.Est, a.Cost, b.Cost)}, api.PHashLeft: {max(a.Est, joined), cost.Hash(a.Est, a.Cost, b.Est, b.Cost)},
		api.PDistinct: {a.Est, cost.Each(a.Est, a.Cost)}, api.PUnion: {cost.Add(a.Est, b.Est), cost.Add(cost.Add(a.Cost, b.Cost), cost.Add(a.Est, b.Est))},
		api.PInter: {min(a.Est, b.Est), cost.Add(cost.Add(a.Cost, b.Cost), cost.Add(a.Est, b.Est))}, api.PExcept: {a.Est, cost.Add(cost.Add(a.Cost, b.Cost), cost.Add(a.Est, b.Est))},
		api.PSort: {a.Est, cost.Sort(a.Est, a.Cost)}, api.PPick: {a.Est, a.Cost},
	}
	switch p.Op {
	case api.PScan, api.PSeek:
		return ""
	case api.PGroup:
		est := a.Est
		if len(p.Terms) == 0 {
			est = 1
		}
		want[api.PGroup] = [2]int{est, cost.Each(a.Est, a.Cost)}
	case api.PLimit:
		est := max(a.Est-p.Skip, 0)
		if p.Limit >= 0 {
			est = min(est, p.Limit)
		}
		want[api.PLimit] = [2]int{est, a.Cost}
	}
	if got := [2]int{p.Est, p.Cost}; got != want[p.Op] {
		return fmt.Sprintf("%s: %v, want %v", show(p), got, want[p.Op])
	}
	return ""
}

func TestP29_1(t *testing.T) {
	c := catalog(t)
	for _, x := range samples {
		r := bound(t, x.sql)
		p := Plan(c, stats(), r)
		if got := show(p); got != x.shape && x.shape != "*" {
			t.Errorf("%s: %s, want %s", x.sql, got, x.shape)
		}
		if s := check(p); s != "" {
			t.Errorf("%s: %s", x.sql, s)
		}
		if fmt.Sprint(p.Cols) != fmt.Sprint(r.Cols) {
			t.Errorf("%s: the columns %v", x.sql, p.Cols)
		}
	}
	filter := bound(t, "select a from t as x where c = 1 and a < 20").Kids[0].Kids[0]
	table, _ := schema.Find(c, "t")
	s, _ := stat.Find(stats(), "t")
	want := access.Best(access.Paths(c, s, table, "t", conj.Split(filter.Terms[0])))
	want.Cols = filter.Cols
	if got := Plan(c, stats(), filter); !reflect.DeepEqual(got, want) || got.Cols[0].Table != "x" {
		t.Errorf("%v, want %v", got, want)
	}
	missing := api.Rel{Op: api.RTable, Table: "none", Cols: make([]api.Col, 2)}
	if got := Plan(c, stats(), missing); !reflect.DeepEqual(got, api.Plan{Op: api.PScan, Table: "none", Cols: missing.Cols}) {
		t.Errorf("%v", got)
	}
	narrow := api.Rel{Op: api.RTable, Table: "t", Cols: make([]api.Col, 2)}
	yes := api.Term{Op: api.EIsNull, Kids: []api.Term{{Op: api.ECol}}, Type: api.VBool}
	if got := Plan(c, stats(), api.Rel{Op: api.RFilter, Cols: narrow.Cols, Kids: []api.Rel{narrow}, Terms: []api.Term{yes}}); got.Op != api.PScan || len(got.Terms) != 1 || got.Est != 0 || got.Cost != 0 {
		t.Errorf("%v", got)
	}
	join := push.Rel(bound(t, "select * from t, u, v where t.a = u.a and v.b = t.b and u.d = 1")).Kids[0].Kids[0]
	leaves, terms := graph.Leaves(join)
	var plans []api.Plan
	for _, l := range leaves {
		plans = append(plans, Plan(c, stats(), l))
	}
	if got := Plan(c, stats(), join); !reflect.DeepEqual(got, order.Best(plans, terms)) {
		t.Errorf("%v", show(got))
	}
}

// chain joins so many tables.
func chain(n int) api.Rel {
	u := api.Rel{Op: api.RTable, Table: "u", Cols: make([]api.Col, 2)}
	r := u
	for range n - 1 {
		r = api.Rel{Op: api.RJoin, Cols: make([]api.Col, len(r.Cols)+2), Kids: []api.Rel{r, u}}
	}
	return r
}

func TestP29_1Many(t *testing.T) {
	c := catalog(t)
	eq := api.Term{Op: api.EEq, Kids: []api.Term{{Op: api.ECol, At: 0}, {Op: api.ECol, At: 17}}, Type: api.VBool}
	nine := chain(9)
	nine.Terms = []api.Term{{Op: api.EAnd, Kids: []api.Term{eq, eq}, Type: api.VBool}}
	p := Plan(c, stats(), nine)
	if p.Op != api.PNest || len(p.Terms) != 2 || p.Kids[1].Op != api.PScan || len(p.Kids[0].Cols) != 16 || check(p) != "" {
		t.Error(show(p), check(p))
	}
	left := api.Rel{Op: api.RLeft, Cols: make([]api.Col, 4), Kids: []api.Rel{chain(1), chain(1)}, Terms: []api.Term{eq}}
	left.Terms[0].Kids[1].At = 3
	if p := Plan(c, stats(), left); p.Op != api.PHashLeft {
		t.Error(show(p))
	}
	if p := Plan(c, stats(), chain(2000)); p.Op != api.PNest || p.Cost != api.MaxCost || !Right(p, nil) {
		t.Error(p.Op, p.Cost)
	}
	if got := len(Ways(c, stats(), nine, 5)); got != 5 {
		t.Error(got)
	}
	limit := api.Rel{Op: api.RLimit, Cols: make([]api.Col, 2), Kids: []api.Rel{chain(1)}, Limit: 7, Skip: 38}
	if p := Plan(c, stats(), limit); p.Est != 2 {
		t.Error(p.Est)
	}
	limit.Skip = api.MaxNum
	if p := Plan(c, stats(), limit); p.Est != 0 {
		t.Error(p.Est)
	}
}

func shapes(l []api.Plan) string {
	var s []string
	for _, p := range l {
		s = append(s, show(p))
	}
	return strings.Join(s, "; ")
}

func TestP29_2(t *testing.T) {
	c := catalog(t)
	for _, x := range []struct {
		sql  string
		most int
		want string
	}{
		{"select a from t where c = 1 and a = 20", 9, "sort(project(seek t t_1 2)); sort(project(scan t 2)); sort(project(seek t i 2))"}, {"select a from t where c = 1 and a = 20", 2, "sort(project(seek t t_1 2)); sort(project(scan t 2))"},
		{"select a from t where c = 1", 0, ""}, {"select a from t where c = 1", -4, ""}, {"select 1", 5, "sort(project(rows))"},
		{"select * from u join v on u.d = v.e", 99, "*"},
		{"select a from u where d = 1 union select c from t where a = 1", 99, "sort(union(project(seek u j 1))(project(seek t t_1 1))); sort(union(project(scan u 1))(project(seek t t_1 1))); sort(union(project(seek u j 1))(project(scan t 1)))"},
		{"select a from u where d = 1 union select c from t where a = 1", 2, "sort(union(project(seek u j 1))(project(seek t t_1 1))); sort(union(project(scan u 1))(project(seek t t_1 1)))"},
		{"select u.a from u left join v on u.d = v.e and u.a < v.e where u.d = 2", 9, "sort(project(hashleft 1 on 1(seek u j 1)(scan v))); sort(project(hashleft 1 on 1(scan u 1)(scan v))); sort(project(left 2(seek u j 1)(scan v)))"},
		{"select u.a from u left join v on u.a < v.e", 9, "sort(project(left 1(scan u)(scan v)))"},
		{"select x.a from (select a from u where d = 1 limit 1) as x where x.a = 1", 9, "sort(project(filter 1(limit(sort(project(seek u j 1)))))); sort(project(filter 1(limit(sort(project(scan u 1))))))"},
	} {
		r := bound(t, x.sql)
		l := Ways(c, stats(), r, x.most)
		if got := shapes(l); got != x.want && x.want != "*" {
			t.Errorf("%s:\n got %s\nwant %s", x.sql, got, x.want)
		}
		for _, p := range l {
			if s := check(p); s != "" {
				t.Errorf("%s: %s", x.sql, s)
			}
		}
	}
	join := push.Rel(bound(t, "select * from u join v on u.d = v.e where u.d = 1")).Kids[0].Kids[0]
	leaves, terms := graph.Leaves(join)
	var plans []api.Plan
	for _, l := range leaves {
		plans = append(plans, Plan(c, stats(), l))
	}
	l := Ways(c, stats(), join, 99)
	all := order.All(plans, terms, 99)
	if len(l) != 1+len(all) || !reflect.DeepEqual(l[0], Plan(c, stats(), join)) || !reflect.DeepEqual(l[1:], all) {
		t.Errorf("%s", shapes(l))
	}
}

func TestP29_3(t *testing.T) {
	col := api.Term{Op: api.ECol, At: 1, Type: api.VInt}
	beyond := api.Term{Op: api.ECol, At: 2, Type: api.VInt}
	outer := api.Term{Op: api.ECol, Depth: 1, Type: api.VInt}
	cols := func(n int) []api.Col { return make([]api.Col, n) }
	scan := api.Plan{Op: api.PScan, Table: "t", Cols: cols(2)}
	one := api.Plan{Op: api.PScan, Table: "t", Cols: cols(1)}
	with := func(p api.Plan, f func(*api.Plan)) api.Plan {
		f(&p)
		return p
	}
	over := func(op, width int, kids ...api.Plan) api.Plan {
		return api.Plan{Op: op, Cols: cols(width), Kids: kids}
	}
	terms := func(p api.Plan, l ...api.Term) api.Plan { return with(p, func(p *api.Plan) { p.Terms = l }) }
	seek := with(scan, func(p *api.Plan) { p.Op, p.Index = api.PSeek, "i" })
	row := api.Row{value.Num(1), value.Num(2)}
	keys := func(op, width int, l, r []api.Term) api.Plan {
		return with(over(op, width, scan, one), func(p *api.Plan) { p.LKeys, p.RKeys = l, r })
	}
	k, k0 := []api.Term{col}, []api.Term{{Op: api.ECol, Type: api.VInt}}
	group := with(over(api.PGroup, 2, scan), func(p *api.Plan) { p.Terms, p.Aggs = k, []api.Agg{{Name: "count"}} })
	for i, c := range []struct {
		p     api.Plan
		right bool
	}{
		{scan, true}, {with(scan, func(p *api.Plan) { p.Table = "" }), false}, {terms(scan, col, outer), true}, {terms(scan, beyond), false}, {with(scan, func(p *api.Plan) { p.Est = -1 }), false}, {with(scan, func(p *api.Plan) { p.Est, p.Cost = api.MaxCost, api.MaxCost }), true},
		{with(scan, func(p *api.Plan) { p.Est = api.MaxCost + 1 }), false}, {with(scan, func(p *api.Plan) { p.Cost = -1 }), false}, {with(scan, func(p *api.Plan) { p.Cost = api.MaxCost + 1 }), false}, {with(scan, func(p *api.Plan) { p.Kids = []api.Plan{scan} }), false},
		{seek, true}, {with(seek, func(p *api.Plan) { p.Index = "" }), false}, {with(seek, func(p *api.Plan) { p.Table = "" }), false}, {terms(seek, beyond), false}, {with(seek, func(p *api.Plan) { p.Lo.Key = api.Row{{Kind: 9}} }), false}, {with(seek, func(p *api.Plan) { p.Hi.Key = api.Row{{Kind: 9}} }), false}, {with(seek, func(p *api.Plan) { p.Hi.Key = row }), true},
		{api.Plan{Op: api.PRows, Cols: cols(2), Rows: []api.Row{row}}, true}, {api.Plan{Op: api.PRows, Cols: cols(1), Rows: []api.Row{row}}, false}, {api.Plan{Op: api.PRows, Cols: cols(1), Rows: []api.Row{{{Kind: 9}}}}, false}, {api.Plan{Op: api.PRows}, true},
		{over(api.PFilter, 2, scan), true}, {over(api.PFilter, 1, scan), false}, {terms(over(api.PFilter, 2, scan), col, col), true}, {terms(over(api.PFilter, 2, scan), beyond), false}, {over(api.PFilter, 2), false}, {over(api.PFilter, 2, scan, scan), false}, {over(api.PFilter, 2, with(scan, func(p *api.Plan) { p.Table = "" })), false},
		{terms(over(api.PProject, 1, scan), col), true}, {terms(over(api.PProject, 2, scan), col), false}, {terms(over(api.PProject, 1, scan), beyond), false}, {terms(over(api.PProject, 1, scan), outer), true},
		{over(api.PNest, 3, scan, one), true}, {over(api.PNest, 2, scan, one), false}, {terms(over(api.PNest, 3, scan, one), beyond), true}, {over(api.PNest, 2, scan), false}, {terms(over(api.PLeft, 3, scan, one), beyond), true}, {over(api.PLeft, 4, scan, one), false},
		{keys(api.PHash, 3, k, k0), true}, {keys(api.PMerge, 3, k, k0), true}, {keys(api.PHashLeft, 3, k, k0), true}, {keys(api.PHash, 3, nil, nil), false}, {keys(api.PHash, 3, k, nil), false}, {keys(api.PMerge, 3, k, append(k0, k0...)), false}, {keys(api.PHash, 3, []api.Term{beyond}, k0), false}, {keys(api.PHash, 3, k, k), false},
		{keys(api.PHashLeft, 2, k, k0), false}, {terms(keys(api.PHash, 3, k, k0), beyond), true}, {terms(keys(api.PHash, 3, k, k0), api.Term{Op: api.ECol, At: 3}), false},
		{group, true}, {with(group, func(p *api.Plan) { p.Cols = cols(1) }), false}, {terms(group, beyond), false}, {with(group, func(p *api.Plan) { p.Aggs = []api.Agg{{Name: "sum"}} }), false}, {with(group, func(p *api.Plan) { p.Aggs = []api.Agg{{Name: "max", T: []api.Term{beyond}}} }), false}, {with(group, func(p *api.Plan) { p.Aggs = []api.Agg{{Name: "max", T: k}} }), true},
		{over(api.PDistinct, 2, scan), true}, {over(api.PDistinct, 1, scan), false}, {with(over(api.PSort, 2, scan), func(p *api.Plan) { p.Keys = []api.By{{At: 1}} }), true}, {with(over(api.PSort, 2, scan), func(p *api.Plan) { p.Keys = []api.By{{At: 2}} }), false}, {over(api.PSort, 1, scan), false},
		{with(over(api.PLimit, 2, scan), func(p *api.Plan) { p.Limit = -1 }), true}, {with(over(api.PLimit, 2, scan), func(p *api.Plan) { p.Limit = -2 }), false}, {with(over(api.PLimit, 2, scan), func(p *api.Plan) { p.Skip = -1 }), false}, {with(over(api.PLimit, 2, scan), func(p *api.Plan) { p.Skip = api.MaxNum + 1 }), false},
		{over(api.PUnion, 2, scan, scan), true}, {over(api.PUnion, 2, scan, one), false}, {over(api.PInter, 1, scan, scan), false}, {over(api.PExcept, 2, scan), false}, {with(over(api.PExcept, 2, scan, scan), func(p *api.Plan) { p.All = true }), true},
		{with(over(api.PPick, 3, scan), func(p *api.Plan) { p.Out = []int{1, 0, 1} }), true}, {with(over(api.PPick, 1, scan), func(p *api.Plan) { p.Out = []int{2} }), false}, {with(over(api.PPick, 1, scan), func(p *api.Plan) { p.Out = []int{-1} }), false}, {over(api.PPick, 1, scan), false}, {over(api.PPick, 0, scan), true},
		{api.Plan{}, false}, {api.Plan{Op: 19}, false}, {api.Plan{Op: -1}, false},
	} {
		if got := Right(c.p, []int{1}); got != c.right {
			t.Errorf("%d: %v", i, got)
		}
	}
	if Right(terms(scan, outer), nil) {
		t.Error("no surrounding rows")
	}
}

// tables returns the tables that a plan reads.
func tables(p api.Plan) []string {
	var l []string
	if p.Table != "" {
		l = []string{p.Table}
	}
	for _, k := range p.Kids {
		l = append(l, tables(k)...)
	}
	return l
}

func TestP29_4(t *testing.T) {
	c := catalog(t)
	for _, x := range samples {
		r := bound(t, x.sql)
		l := Ways(c, stats(), r, 40)
		if !reflect.DeepEqual(l[0], Plan(c, stats(), r)) {
			t.Errorf("%s: the first way is not the plan", x.sql)
		}
		for _, p := range l {
			if !Right(p, nil) || len(p.Cols) != len(r.Cols) {
				t.Errorf("%s: %s is not valid", x.sql, show(p))
			}
			for _, name := range tables(p) {
				if !strings.Contains(x.sql, " "+name) {
					t.Errorf("%s: %s reads %s", x.sql, show(p), name)
				}
			}
		}
	}
	inner := bound(t, "select 1 from t where exists (select 1 from u, v where u.a = t.a and v.e = u.d and d = 1)").Kids[0].Kids[0].Terms[0].Sub[0]
	for _, p := range Ways(c, stats(), inner, 50) {
		if !Right(p, []int{3}) || Right(p, nil) {
			t.Errorf("%s is not valid under its surroundings", show(p))
		}
	}
}
