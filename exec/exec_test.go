package exec

import (
	"fmt"
	"math/rand"
	"reflect"
	"strings"
	"testing"

	"tabellion/api"
	"tabellion/bind"
	"tabellion/naive"
	"tabellion/parse"
	"tabellion/planner"
	"tabellion/schema"
	"tabellion/stat"
	"tabellion/value"
)

func catalog(t *testing.T) api.Catalog {
	t.Helper()
	c := api.Catalog{Next: 1}
	for _, sql := range []string{
		"create table t (a int, b text, c int, unique (a))", "create table u (a int, d int)", "create table v (b text, e int)",
		"create index i on t (c, a)", "create index j on u (d)", "create index k on v (b)",
	} {
		s, _, err := parse.Stmt(sql)
		if err == api.OK && s.Kind == api.SCreate {
			c, err = schema.Create(c, s)
		} else if err == api.OK {
			c, err = schema.Index(c, s)
		}
		if err != api.OK {
			t.Fatal(sql, err)
		}
	}
	return c
}

func row(l ...any) api.Row {
	var r api.Row
	for _, x := range l {
		switch x := x.(type) {
		case nil:
			r = append(r, api.Value{})
		case int:
			r = append(r, value.Num(x))
		case string:
			r = append(r, value.Str(x))
		}
	}
	return r
}

func col(at int) api.Term { return api.Term{Op: api.ECol, At: at, Type: api.VInt} }

func op(op int, kids ...api.Term) api.Term {
	return api.Term{Op: op, Kids: kids, Type: api.VBool}
}

func tables() []api.Data {
	return []api.Data{
		{Table: "t", Rows: []api.Row{row(3, "x", 1), row(1, nil, 2), row(nil, "y", 1), row(2, "x", nil)}},
		{Table: "u", Rows: []api.Row{row(1, 10), row(3, nil), row(1, 5), row(nil, 7)}},
	}
}

func bounds(lo, hi api.Bound) api.Plan {
	return api.Plan{Op: api.PSeek, Table: "t", Index: "i", Cols: make([]api.Col, 3), Lo: lo, Hi: hi}
}

func text(rows []api.Row) string {
	var l []string
	for _, r := range rows {
		var s []string
		for _, v := range r {
			s = append(s, value.Text(v))
		}
		l = append(l, strings.Join(s, ","))
	}
	return strings.Join(l, " ")
}

func TestP35_1(t *testing.T) {
	c := catalog(t)
	b := func(open bool, l ...any) api.Bound { return api.Bound{Is: true, Open: open, Key: row(l...)} }
	none := api.Bound{}
	for i, x := range []struct {
		p    api.Plan
		want string
	}{
		{api.Plan{Op: api.PScan, Table: "t", Terms: []api.Term{{}}}, "3,'x',1 1,null,2 null,'y',1 2,'x',null"}, {api.Plan{Op: api.PScan, Table: "none"}, ""}, {bounds(none, none), "2,'x',null null,'y',1 3,'x',1 1,null,2"},
		{bounds(b(false, 1), none), "null,'y',1 3,'x',1 1,null,2"}, {bounds(b(true, 1), none), "1,null,2"}, {bounds(none, b(false, 1)), "2,'x',null null,'y',1 3,'x',1"}, {bounds(none, b(true, 1)), "2,'x',null"}, {bounds(b(false, 1, 3), b(false, 1)), "3,'x',1"},
		{bounds(b(false, 1), b(true, 1, 3)), "null,'y',1"}, {bounds(b(false), b(false)), "2,'x',null null,'y',1 3,'x',1 1,null,2"}, {bounds(b(true), none), ""}, {bounds(none, b(true)), ""}, {bounds(b(false, 1, 3, 9), none), "1,null,2"}, {bounds(none, b(false, 1, 3, 9)), "2,'x',null null,'y',1 3,'x',1"},
		{bounds(b(false, nil), b(false, nil)), "2,'x',null"}, {bounds(api.Bound{Open: true, Key: row(9)}, none), "2,'x',null null,'y',1 3,'x',1 1,null,2"}, {api.Plan{Op: api.PSeek, Table: "t", Index: "none"}, ""}, {api.Plan{Op: api.PSeek, Table: "none", Index: "i"}, ""},
		{api.Plan{Op: api.PFilter, Table: "t"}, ""}, {api.Plan{}, ""}, {api.Plan{Op: api.PSeek, Table: "t", Index: "j"}, "1,null,2 2,'x',null 3,'x',1 null,'y',1"},
	} {
		if got := text(Leaf(c, tables(), x.p)); got != x.want {
			t.Errorf("%d: %s, want %s", i, got, x.want)
		}
		if got := text(Mem(c, tables())(x.p)); got != x.want {
			t.Errorf("%d: Mem: %s", i, got)
		}
	}
	db := tables()
	f := Mem(c, db)
	db[0].Rows[0][0] = value.Num(99)
	f(bounds(none, none))[0][0] = value.Num(98)
	if got := text(f(bounds(none, none))); got != "2,'x',null null,'y',1 3,'x',1 1,null,2" {
		t.Errorf("Mem shares memory: %s", got)
	}
}

func TestP35_2(t *testing.T) {
	c := catalog(t)
	tt := api.Plan{Op: api.PScan, Table: "t", Cols: make([]api.Col, 3)}
	u := api.Plan{Op: api.PScan, Table: "u", Cols: make([]api.Col, 2)}
	eq := func(a, b int) api.Term { return op(api.EEq, col(a), col(b)) }
	n := func(x int) api.Term { return api.Term{Op: api.EConst, V: value.Num(x), Type: api.VInt} }
	with := func(op int, f func(*api.Plan), kids ...api.Plan) api.Plan {
		p := api.Plan{Op: op, Kids: kids}
		for _, k := range kids {
			p.Cols = append(p.Cols, k.Cols...)
		}
		f(&p)
		return p
	}
	hash := func(p *api.Plan) { p.LKeys, p.RKeys = []api.Term{col(0)}, []api.Term{col(0)} }
	hashMore := func(p *api.Plan) { hash(p); p.Terms = []api.Term{op(api.EGt, col(4), n(5))} }
	exists := api.Term{Op: api.EExists, Sub: []api.Rel{{Op: api.RFilter, Kids: []api.Rel{{Op: api.RTable, Table: "u"}}, Terms: []api.Term{op(api.EEq, col(0), api.Term{Op: api.ECol, Depth: 1})}}}, Type: api.VBool}
	joined, joined10 := "3,'x',1,3,null 1,null,2,1,10 1,null,2,1,5", "1,null,2,1,10"
	for i, x := range []struct {
		p      api.Plan
		want   string
		counts string
	}{
		{api.Plan{Op: api.PScan, Table: "t", Terms: []api.Term{op(api.EIsNull, col(1))}}, "1,null,2", "[1]"}, {api.Plan{Op: api.PRows, Rows: []api.Row{row(1), row(2)}}, "1 2", "[2]"},
		{with(api.PFilter, func(p *api.Plan) {
			p.Terms = []api.Term{exists, op(api.EGt, col(0), n(1))}
		}, tt), "3,'x',1", "[1 4]"}, {with(api.PFilter, func(p *api.Plan) {}, tt), "3,'x',1 1,null,2 null,'y',1 2,'x',null", "[4 4]"},
		{with(api.PProject, func(p *api.Plan) { p.Terms = []api.Term{col(2), exists} }, tt), "1,true 2,true 1,false null,false", "[4 4]"},
		{with(api.PNest, func(p *api.Plan) { p.Terms = []api.Term{eq(0, 3)} }, tt, u), joined, "[3 4 4]"}, {with(api.PNest, func(p *api.Plan) {}, u, u), "", "[16 4 4]"}, {with(api.PHash, hash, tt, u), joined, "[3 4 4]"}, {with(api.PMerge, hash, tt, u), joined, "[3 4 4]"}, {with(api.PHash, hashMore, tt, u), joined10, "[1 4 4]"}, {with(api.PMerge, hashMore, tt, u), joined10, "[1 4 4]"},
		{with(api.PLeft, func(p *api.Plan) { p.Terms = []api.Term{eq(0, 3)} }, tt, u), "3,'x',1,3,null 1,null,2,1,10 1,null,2,1,5 null,'y',1,null,null 2,'x',null,null,null", "[5 4 4]"}, {with(api.PHashLeft, hash, tt, u), "3,'x',1,3,null 1,null,2,1,10 1,null,2,1,5 null,'y',1,null,null 2,'x',null,null,null", "[5 4 4]"},
		{with(api.PHashLeft, hashMore, tt, u), "3,'x',1,null,null 1,null,2,1,10 null,'y',1,null,null 2,'x',null,null,null", "[4 4 4]"},
		{with(api.PGroup, func(p *api.Plan) {
			p.Terms, p.Aggs = []api.Term{col(2)}, []api.Agg{{Name: "count"}, {Name: "max", T: []api.Term{col(0)}}}
		}, tt), "1,2,3 2,1,1 null,1,2", "[3 4]"}, {with(api.PDistinct, func(p *api.Plan) {}, api.Plan{Op: api.PRows, Rows: []api.Row{row(1), row(1)}}), "1", "[1 2]"},
		{with(api.PUnion, func(p *api.Plan) {}, api.Plan{Op: api.PRows, Rows: []api.Row{row(1)}}, api.Plan{Op: api.PRows, Rows: []api.Row{row(1), row(2)}}), "1 2", "[2 1 2]"}, {with(api.PUnion, func(p *api.Plan) { p.All = true }, api.Plan{Op: api.PRows, Rows: []api.Row{row(1)}}, api.Plan{Op: api.PRows, Rows: []api.Row{row(1)}}), "1 1", "[2 1 1]"},
		{with(api.PInter, func(p *api.Plan) {}, api.Plan{Op: api.PRows, Rows: []api.Row{row(3), row(1)}}, api.Plan{Op: api.PRows, Rows: []api.Row{row(1)}}), "1", "[1 2 1]"}, {with(api.PExcept, func(p *api.Plan) {}, api.Plan{Op: api.PRows, Rows: []api.Row{row(3), row(1)}}, api.Plan{Op: api.PRows, Rows: []api.Row{row(1)}}), "3", "[1 2 1]"},
		{with(api.PSort, func(p *api.Plan) { p.Keys = []api.By{{At: 2, Down: true}} }, tt), "1,null,2 null,'y',1 3,'x',1 2,'x',null", "[4 4]"}, {with(api.PLimit, func(p *api.Plan) { p.Limit, p.Skip = 2, 1 }, tt), "1,null,2 null,'y',1", "[2 4]"},
		{with(api.PPick, func(p *api.Plan) { p.Out = []int{1, 1, 0} }, u), "10,10,1 null,null,3 5,5,1 7,7,null", "[4 4]"},
	} {
		var fetched []string
		rows, counts := Run(x.p, nil, tables(), func(p api.Plan) []api.Row {
			fetched = append(fetched, p.Table)
			return Leaf(c, tables(), p)
		})
		if got := text(rows); got != x.want && x.want != "" || fmt.Sprint(counts) != x.counts {
			t.Errorf("%d: %s %v, want %s %s", i, got, counts, x.want, x.counts)
		}
		var want []string
		for _, k := range append([]api.Plan{x.p}, x.p.Kids...) {
			if k.Op == api.PScan {
				want = append(want, k.Table)
			}
		}
		if !reflect.DeepEqual(fetched, want) {
			t.Errorf("%d: fetched %v", i, fetched)
		}
	}
	outer := op(api.EEq, col(0), api.Term{Op: api.ECol, Depth: 1, At: 0, Type: api.VInt})
	if rows, _ := Run(api.Plan{Op: api.PScan, Table: "t", Terms: []api.Term{outer}}, []api.Row{row(2)}, nil, Mem(c, tables())); text(rows) != "2,'x',null" {
		t.Error("surrounding rows")
	}
	if rows, counts := Run(tt, nil, tables(), nil); len(rows) != 0 || fmt.Sprint(counts) != "[0]" {
		t.Error("no fetch")
	}
	for o := -1; o < 21; o++ {
		Run(api.Plan{Op: o, Terms: []api.Term{{Op: api.ECol, At: 9}}, LKeys: []api.Term{col(3)}, Out: []int{-1, 7}, Kids: []api.Plan{tt}[:max(o, 0)%2]}, nil, tables(), Mem(c, tables()))
	}
}

// nodes translates a relation node by node.
func nodes(r api.Rel) api.Plan {
	ops := map[int]int{
		api.RTable: api.PScan, api.RRows: api.PRows, api.RFilter: api.PFilter, api.RProject: api.PProject, api.RJoin: api.PNest, api.RLeft: api.PLeft, api.RGroup: api.PGroup, api.RDistinct: api.PDistinct,
		api.RUnion: api.PUnion, api.RInter: api.PInter, api.RExcept: api.PExcept, api.RSort: api.PSort, api.RLimit: api.PLimit,
	}
	p := api.Plan{Op: ops[r.Op], Table: r.Table, Cols: r.Cols, Terms: r.Terms, Aggs: r.Aggs, Keys: r.Keys, Limit: r.Limit, Skip: r.Skip, All: r.All, Rows: r.Rows}
	for _, k := range r.Kids {
		p.Kids = append(p.Kids, nodes(k))
	}
	return p
}

var queries = []string{
	"select * from t where a = 1", "select a, b from t where c = 1 and a < 3", "select * from t where c > 0 and b like 'x%' or a is null", "select * from t, u where t.a = u.a", "select * from t join u on t.a = u.a and t.c < u.d where u.d > 1 and t.c = 1",
	"select * from t left join u on t.a = u.a and u.d > 1", "select * from u left join t on t.c < u.d where t.a is null or t.a > 1", "select * from t, u, v where t.a = u.a and v.b = t.b and v.e = u.d", "select * from t as x, t as y where x.a = y.c and x.b <> y.b",
	"select c, count(*), sum(a), max(b) from t group by c having count(*) > 0", "select count(*) from t where a = 77", "select distinct c, b from t order by b desc", "select a from t union select d from u union all select e from v", "select a from t intersect all select a from u",
	"select a from t except select d from u order by 1 limit 2 offset 1", "select * from t where exists (select 1 from u where u.a = t.a and u.d in (select e from v))", "select a, (select max(d) from u where u.a = t.a) from t where a not in (select a from u where a is not null)",
	"select x.n from (select a + c as n, b from t where c between 0 and 2) as x left join v on v.b = x.b where x.n = 2 and v.e is not null", "select * from (select distinct a from u) as x, (select c from t group by c) as y where x.a = y.c", "select case when a > 1 then b else 'z' end from t order by 1",
	"select * from t join (u join v on u.d = v.e) on t.a = u.a and v.b = t.b", "select 1 where 1 = 2 union select 2", "select * from t where a in (1, 2) and b = 'x' and c = 1 order by c, a desc",
	"select b from v where b = 'x' and e > 0 union all select b from t where c = 1 and a > 0 order by 1",
}

func bound(t *testing.T, c api.Catalog, sql string) api.Rel {
	t.Helper()
	q, _, err := parse.Query(sql)
	if err != api.OK {
		t.Fatal(sql, err)
	}
	r, err := bind.Top(c, q)
	if err != api.OK {
		t.Fatal(sql, err)
	}
	return r
}

func TestP35_3(t *testing.T) {
	c := catalog(t)
	r := rand.New(rand.NewSource(35))
	number := func() any {
		if r.Intn(5) == 0 {
			return nil
		}
		return r.Intn(4)
	}
	word := func() any { return []any{nil, "x", "y", "xy"}[r.Intn(4)] }
	for round := range 40 {
		db := []api.Data{{Table: "t"}, {Table: "u"}, {Table: "v"}}
		for range r.Intn(7) {
			db[0].Rows = append(db[0].Rows, row(number(), word(), number()))
			db[1].Rows = append(db[1].Rows, row(number(), number()))
			db[2].Rows = append(db[2].Rows, row(word(), number()))
		}
		var stats []api.Stat
		for i, d := range db {
			if round%2 == 0 {
				stats = append(stats, stat.Of(d.Table, d.Rows, len(c.Tables[i].Cols), 100*r.Intn(9)))
			}
		}
		for _, sql := range queries {
			x := bound(t, c, sql)
			want := naive.Top(x, db)
			rows, counts := Run(nodes(x), nil, db, Mem(c, db))
			if text(rows) != text(want) || counts[0] != len(rows) {
				t.Fatalf("%s: %s, want %s", sql, text(rows), text(want))
			}
			for _, p := range append(planner.Ways(c, stats, x, 25), planner.Plan(c, stats, x)) {
				rows, counts := Run(p, nil, db, Mem(c, db))
				if text(rows) != text(want) || counts[0] != len(rows) {
					t.Fatalf("%s by %v: %s, want %s", sql, p, text(rows), text(want))
				}
			}
		}
	}
}
