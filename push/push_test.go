package push

import (
	"fmt"
	"math/rand"
	"testing"

	"tabellion/algebra"
	"tabellion/api"
	"tabellion/bind"
	"tabellion/naive"
	"tabellion/parse"
	"tabellion/schema"
	"tabellion/value"
)

func col(at int) api.Term { return api.Term{Op: api.ECol, At: at, Type: api.VInt} }

func outer(at int) api.Term { return api.Term{Op: api.ECol, Depth: 1, At: at, Type: api.VInt} }

func num(n int) api.Term { return api.Term{Op: api.EConst, V: value.Num(n), Type: api.VInt} }

func op(op int, kids ...api.Term) api.Term {
	return api.Term{Op: op, Kids: kids, Type: api.VBool}
}

func eq(a, b api.Term) api.Term { return op(api.EEq, a, b) }

// and joins conditions as conj.Join does.
func and(a api.Term, l ...api.Term) api.Term {
	for _, b := range l {
		a = op(api.EAnd, a, b)
	}
	return a
}

func cols(n int) []api.Col {
	l := make([]api.Col, n)
	for i := range l {
		l[i].Name = fmt.Sprint("c", i)
	}
	return l
}

func table(n int) api.Rel { return api.Rel{Op: api.RTable, Table: "t", Cols: cols(n)} }

func where(r api.Rel, t api.Term) api.Rel {
	return api.Rel{Op: api.RFilter, Cols: r.Cols, Kids: []api.Rel{r}, Terms: []api.Term{t}}
}

func node(op, width int, kids ...api.Rel) api.Rel {
	return api.Rel{Op: op, Cols: cols(width), Kids: kids}
}

func with(r api.Rel, l ...api.Term) api.Rel {
	r.Terms = l
	return r
}

func exists(l ...api.Term) api.Term {
	return api.Term{Op: api.EExists, Sub: []api.Rel{where(table(1), and(num(1), l...))}, Type: api.VBool}
}

func TestP22_1(t *testing.T) {
	two, one := table(2), table(1)
	join := node(api.RJoin, 3, two, one)
	left := with(node(api.RLeft, 3, two, one), eq(col(0), col(2)))
	project := with(node(api.RProject, 3, two), op(api.EAdd, col(1), num(1)), exists(), outer(0))
	group := with(node(api.RGroup, 3, two), op(api.EAdd, col(1), num(1)), exists())
	group.Aggs = []api.Agg{{Name: "count"}}
	whole := node(api.RGroup, 1, two)
	whole.Aggs = group.Aggs
	sorted := node(api.RSort, 2, two)
	sorted.Keys = []api.By{{At: 1, Down: true}}
	union := node(api.RUnion, 2, two, where(two, col(0)))
	union.All = true
	c0, c1, c2, c3 := col(0), col(1), col(2), num(3)
	for i, x := range []struct {
		r, want api.Rel
		ok      bool
	}{
		// 1: filters
		{where(where(two, and(c0, c1)), and(c3, eq(c0, c1))), where(two, and(c0, c1, c3, eq(c0, c1))), true},
		// 2: joins
		{where(join, and(eq(c0, num(1)), eq(c2, num(2)), op(api.ELt, c0, c2))), with(node(api.RJoin, 3, where(two, eq(c0, num(1))), where(one, eq(c0, num(2)))), op(api.ELt, c0, c2)), true},
		{where(with(join, and(eq(c0, c2), eq(c1, c2))), and(eq(c2, c2), op(api.EOr, c0, c2), c3)), with(node(api.RJoin, 3, where(two, c3), where(one, eq(c0, c0))), and(eq(c0, c2), eq(c1, c2), op(api.EOr, c0, c2))), true},
		{where(join, c0), node(api.RJoin, 3, where(two, c0), one), true}, {where(with(join, c2), c0), with(node(api.RJoin, 3, where(two, c0), one), c2), true}, {where(join, outer(7)), node(api.RJoin, 3, where(two, outer(7)), one), true},
		{where(join, exists(outer(2))), node(api.RJoin, 3, two, where(one, exists(outer(0)))), true}, {where(join, exists(outer(2), outer(0))), with(join, exists(outer(2), outer(0))), true},
		// 3: left joins
		{where(left, and(c0, c2, eq(c1, num(1)))), where(with(node(api.RLeft, 3, where(two, and(c0, eq(c1, num(1)))), one), left.Terms...), c2), true}, {where(left, c2), where(left, c2), false}, {where(left, c1), with(node(api.RLeft, 3, where(two, c1), one), left.Terms...), true},
		{where(left, and(c3, c2)), where(with(node(api.RLeft, 3, where(two, c3), one), left.Terms...), c2), true},
		// 4: projections
		{where(project, eq(c0, c2)), with(node(api.RProject, 3, where(two, eq(op(api.EAdd, c1, num(1)), outer(0)))), project.Terms...), true}, {where(project, c1), where(project, c1), false}, {where(project, and(c0, exists())), where(project, and(c0, exists())), false},
		{where(project, and(outer(1), c3)), with(node(api.RProject, 3, where(two, and(outer(1), c3))), project.Terms...), true},
		// 5: duplicates, sorts, unions
		{where(node(api.RDistinct, 2, two), exists(outer(0))), node(api.RDistinct, 2, where(two, exists(outer(0)))), true}, {where(sorted, c0), api.Rel{Op: api.RSort, Cols: cols(2), Keys: sorted.Keys, Kids: []api.Rel{where(two, c0)}}, true},
		{where(union, c1), api.Rel{Op: api.RUnion, All: true, Cols: cols(2), Kids: []api.Rel{where(two, c1), where(where(two, c0), c1)}}, true},
		// 6: groups
		{where(group, and(eq(c0, num(1)), c2, c1)), where(over(group, where(two, eq(op(api.EAdd, c1, num(1)), num(1)))), and(c2, c1)), true}, {where(group, and(c1, c2)), where(group, and(c1, c2)), false}, {where(group, and(c0, c3)), over(group, where(two, and(op(api.EAdd, c1, num(1)), c3))), true},
		{where(group, exists(outer(0))), where(group, exists(outer(0))), false}, {where(whole, c3), where(whole, c3), false}, {where(group, eq(c0, c2)), where(group, eq(c0, c2)), false},
		// nothing
		{where(two, c0), where(two, c0), false}, {where(node(api.RInter, 2, two, two), c0), where(node(api.RInter, 2, two, two), c0), false}, {where(node(api.RExcept, 2, two, two), c0), where(node(api.RExcept, 2, two, two), c0), false},
		{where(node(api.RLimit, 2, two), c0), where(node(api.RLimit, 2, two), c0), false}, {where(node(api.RRows, 2), c0), where(node(api.RRows, 2), c0), false}, {join, join, false}, {sorted, sorted, false}, {api.Rel{}, api.Rel{}, false},
	} {
		got, ok := Once(x.r)
		if ok != x.ok || !algebra.SameRel(got, x.want) {
			t.Errorf("%d: %v\n got %v\nwant %v", i, ok, got, x.want)
		}
	}
}

func over(r, kid api.Rel) api.Rel {
	r.Kids = []api.Rel{kid}
	return r
}

var tables = []string{"create table t (a int, b text)", "create table u (a int, d int)", "create table v (b text, e int)"}

var samples = []string{
	"select * from t, u where t.a = u.a and t.b = 'x' and u.d < 2 and t.a < u.d",
	"select * from t join u on t.a = u.a left join v on v.e = u.d where t.b = v.b and u.d = 1 and t.a = 2 or 1 = 2",
	"select * from t left join (select * from u where d > 0) as x on t.a = x.a where t.a = 1 and x.d is null and t.b in ('x', 'y')",
	"select * from (select a + 1 as c, b from t) as x, u where x.c = u.a and x.c < 3 and b like 'x%'",
	"select * from (select distinct a from t union all select d from u) as x where a = 1 and exists (select 1 from u where u.a = x.a)",
	"select a, n from (select a, count(*) as n from t group by a) as x where a > 0 and n > 1",
	"select b, sum(a) from t group by b having b = 'x' and sum(a) > 1",
	"select * from (select a from t order by a) as x where a in (select d from u where d > 0 and u.a = x.a)",
	"select * from (select a from t limit 2) as x where a = 1",
	"select * from (select a from t except select a from u) as x, v where x.a = v.e and v.b = 'x'",
	"select (select max(d) from (select * from u) as y where y.a = t.a and d < 3) from t where exists (select 1 from (select e from v) as z where z.e = t.a)",
	"select * from (select x.a as p, y.d as q from t as x, u as y) as z where p = 1 and q = 2 and p < q and (select 1) = 1",
	"select * from (select a, (select max(d) from u) as m from t) as x where a = 1 and m = 2",
	"select count(*) from (select a from t) as x having 1 = 2",
	"select * from t as x, t as y, u, v where x.a = y.a and y.b = v.b and v.e = u.d and x.b = 'x' and u.a in (1, 2)",
	"select sum(case when exists (select 1 from (select d from u) as y where y.d = t.a) then 1 else 0 end) from t where a < 2",
}

func relation(t *testing.T, sql string) api.Rel {
	t.Helper()
	c := api.Catalog{Next: 1}
	for _, s := range tables {
		st, _, _ := parse.Stmt(s)
		c, _ = schema.Create(c, st)
	}
	q, _, err := parse.Query(sql)
	if err != api.OK {
		t.Fatalf("%s: %d", sql, err)
	}
	r, err := bind.Query(c, nil, q)
	if err != api.OK {
		t.Fatalf("%s: %d", sql, err)
	}
	return r
}

// settledIn reports whether Once fits no filter within r, except in the samples of its terms.
func settledIn(r api.Rel) bool {
	if _, ok := Once(r); ok {
		return false
	}
	for _, k := range r.Kids {
		if !settledIn(k) {
			return false
		}
	}
	for _, t := range r.Terms {
		if !settledTerm(t) {
			return false
		}
	}
	for _, a := range r.Aggs {
		for _, t := range a.T {
			if !settledTerm(t) {
				return false
			}
		}
	}
	return true
}

func settledTerm(t api.Term) bool {
	for _, k := range t.Kids {
		if !settledTerm(k) {
			return false
		}
	}
	for _, r := range t.Sub {
		if !settledIn(r) {
			return false
		}
	}
	return true
}

// slow does what P22.2 says, word by word.
func slow(r api.Rel) api.Rel {
	kids, terms := r.Kids, r.Terms
	r.Kids, r.Terms = nil, nil
	for _, k := range kids {
		r.Kids = append(r.Kids, slow(k))
	}
	for _, t := range terms {
		r.Terms = append(r.Terms, slowTerm(t))
	}
	aggs := r.Aggs
	r.Aggs = nil
	for _, a := range aggs {
		l := a.T
		a.T = nil
		for _, t := range l {
			a.T = append(a.T, slowTerm(t))
		}
		r.Aggs = append(r.Aggs, a)
	}
	if x, ok := Once(r); ok {
		return slow(x)
	}
	return r
}

func slowTerm(t api.Term) api.Term {
	kids, subs := t.Kids, t.Sub
	t.Kids, t.Sub = nil, nil
	for _, k := range kids {
		t.Kids = append(t.Kids, slowTerm(k))
	}
	for _, r := range subs {
		t.Sub = append(t.Sub, slow(r))
	}
	return t
}

func TestP22_2(t *testing.T) {
	for _, sql := range samples {
		r := relation(t, sql)
		if got := Rel(r); !algebra.SameRel(got, slow(r)) {
			t.Errorf("%s: %v, want %v", sql, got, slow(r))
		}
	}
	inner := relation(t, samples[4])
	if !settledIn(Rel(inner)) || settledIn(inner) {
		t.Error("settledIn")
	}
}

func TestP22_3(t *testing.T) {
	r := rand.New(rand.NewSource(22))
	number := func() api.Value {
		if r.Intn(4) == 0 {
			return api.Value{}
		}
		return value.Num(r.Intn(3))
	}
	word := func() api.Value { return []api.Value{{}, value.Str("x"), value.Str("y")}[r.Intn(3)] }
	for range 60 {
		db := []api.Data{{Table: "t"}, {Table: "u"}, {Table: "v"}}
		for range r.Intn(5) {
			db[0].Rows = append(db[0].Rows, api.Row{number(), word()})
			db[1].Rows = append(db[1].Rows, api.Row{number(), number()})
			db[2].Rows = append(db[2].Rows, api.Row{word(), number()})
		}
		for _, sql := range samples {
			x := relation(t, sql)
			y := Rel(x)
			if !algebra.Rel(y, nil) || len(x.Cols) != len(y.Cols) {
				t.Fatalf("%s: not valid", sql)
			}
			if !settledIn(y) || !algebra.SameRel(Rel(y), y) {
				t.Fatalf("%s: not settled", sql)
			}
			if a, b := naive.Run(x, nil, db), naive.Run(y, nil, db); !value.Bag(a, b) {
				t.Fatalf("%s: %v, pushed %v", sql, a, b)
			}
		}
	}
	deep := table(1)
	for range 3000 {
		deep = node(api.RSort, 1, deep)
	}
	if got := Rel(where(deep, col(0))); got.Op != api.RSort {
		t.Error("a deep relation")
	}
}
