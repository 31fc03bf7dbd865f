package bind

import (
	"fmt"
	"reflect"
	"strings"
	"testing"

	"tabellion/algebra"
	"tabellion/api"
	"tabellion/parse"
	"tabellion/schema"
	"tabellion/value"
)

func catalog(t *testing.T, sql ...string) api.Catalog {
	t.Helper()
	c := api.Catalog{Next: 1}
	for _, s := range sql {
		st, _, err := parse.Stmt(s)
		if err == api.OK {
			c, err = schema.Create(c, st)
		}
		if err != api.OK {
			t.Fatalf("%s: %d", s, err)
		}
	}
	return c
}

func some(t *testing.T) api.Catalog {
	return catalog(t, "create table t (a int, b text, c bool)", "create table u (a int, d int)", "create table v (b text)")
}

var opNames = []string{
	"", "", "", "neg", "not", "+", "-", "*", "/", "%", "||", "=", "<>", "<", "<=", ">", ">=", "and", "or", "null?", "like", "in", "between", "case", "f:", "agg",
	"scalar", "exists", "insub",
}

var kindNames = []string{"n", "b", "i", "x"}

func dumpTerm(t api.Term) string {
	kind := kindNames[t.Type]
	switch t.Op {
	case api.EConst:
		return value.Text(t.V) + kind
	case api.ECol:
		return fmt.Sprintf("%d.%d%s", t.Depth, t.At, kind)
	}
	s := opNames[t.Op] + t.Name + kind
	for _, k := range t.Kids {
		s += " " + dumpTerm(k)
	}
	for _, r := range t.Sub {
		s += " " + dump(r)
	}
	return "(" + s + ")"
}

func dumpTerms(l []api.Term) string {
	var s []string
	for _, t := range l {
		s = append(s, dumpTerm(t))
	}
	return strings.Join(s, " ")
}

func dump(r api.Rel) string {
	names := []string{"", "", "rows", "filter", "project", "join", "left", "group", "distinct", "union", "inter", "except", "sort", "limit"}
	s := names[r.Op] + r.Table
	if len(r.Terms) > 0 {
		s += "[" + dumpTerms(r.Terms) + "]"
	}
	for _, a := range r.Aggs {
		s += "{" + a.Name
		if a.Distinct {
			s += "!"
		}
		s += " " + dumpTerms(a.T) + "}"
	}
	for _, k := range r.Keys {
		s += fmt.Sprintf("<%d %v>", k.At, k.Down)
	}
	if r.Op == api.RLimit {
		s += fmt.Sprint(r.Limit, r.Skip)
	}
	if r.All {
		s += "all"
	}
	if r.Op == api.RRows {
		s += fmt.Sprint(len(r.Rows))
	}
	for _, k := range r.Kids {
		s += "(" + dump(k) + ")"
	}
	return s
}

func dumpCols(l []api.Col) string {
	var s []string
	for _, c := range l {
		s = append(s, strings.TrimPrefix(c.Table+"."+c.Name+":"+kindNames[c.Type], "."))
	}
	return strings.Join(s, " ")
}

func expr(t *testing.T, s string) api.Expr {
	t.Helper()
	e, at, err := parse.Expr(s)
	if err != api.OK {
		t.Fatalf("%s: %d at %d", s, err, at)
	}
	return e
}

func query(t *testing.T, s string) api.Query {
	t.Helper()
	q, at, err := parse.Query(s)
	if err != api.OK {
		t.Fatalf("%s: %d at %d", s, err, at)
	}
	return q
}

var env = [][]api.Col{
	{{Table: "t", Name: "a", Type: api.VInt}, {Table: "t", Name: "b", Type: api.VText}, {Table: "u", Name: "a", Type: api.VInt}, {Name: "n"}},
	{{Table: "w", Name: "z", Type: api.VBool}},
}

func TestP16_1(t *testing.T) {
	c := some(t)
	for s, want := range map[string]any{
		"1": "1i", "null": "nulln", "'x'": "'x'x", "b": "0.1x", "u.a": "0.2i", "z": "1.0b", "w.z": "1.0b", "n": "0.3n", "a": api.ErrMany, "q": api.ErrName, "u.b": api.ErrName,
		"- t.a": "(negi 0.0i)", "not z": "(notb 1.0b)", "not b": api.ErrType, "t.a + n": "(+i 0.0i 0.3n)", "t.a + b": api.ErrType, "b || 'x'": "(||x 0.1x 'x'x)", "t.a = u.a": "(=b 0.0i 0.2i)", "t.a = b": api.ErrType,
		"b like n": "(likeb 0.1x 0.3n)", "t.a in (1, n)": "(inb 0.0i 1i 0.3n)", "t.a between 1 and u.a": "(betweenb 0.0i 1i 0.2i)", "case when z then 1 else n end": "(casei 1.0b 1i 0.3n)", "z is null": "(null?b 1.0b)",
		"lower(b)": "(f:lowerx 0.1x)", "lower(t.a)": api.ErrType, "lower()": api.ErrCount, "foo(1)": api.ErrName, "foo(q)": api.ErrName, "foo(a)": api.ErrMany, "coalesce(n, b)": "(f:coalescex 0.3n 0.1x)",
		"count(*)": api.ErrGroup, "1 + sum(t.a)": api.ErrGroup, "sum(q)": api.ErrGroup, "q + a": api.ErrName, "a + q": api.ErrMany,
		"(select d from u)":                                 "(scalari project[0.1i](u))",
		"(select d from u where d = t.a)":                   "(scalari project[0.1i](filter[(=b 0.1i 1.0i)](u)))",
		"(select z)":                                        "(scalarb project[2.0b](rows1))",
		"(select a, d from u)":                              api.ErrCount,
		"(select q from u)":                                 api.ErrName,
		"exists (select * from u)":                          "(existsb project[0.0i 0.1i](u))",
		"exists (select q)":                                 api.ErrName,
		"t.a in (select d from u)":                          "(insubb 0.0i project[0.1i](u))",
		"n in (select b from v)":                            "(insubb 0.3n project[0.0x](v))",
		"b in (select d from u)":                            api.ErrType,
		"b in (select * from u)":                            api.ErrCount,
		"q in (select * from nothing)":                      api.ErrName,
		"a in (select * from nothing)":                      api.ErrMany,
		"t.a in (select * from nothing)":                    api.ErrName,
		"(select (select u.d) from u)":                      "(scalari project[(scalari project[1.1i](rows1))](u))",
		"(select (select b from v where v.b = t.b) from u)": "(scalarx project[(scalarx project[0.0x](filter[(=b 0.0x 2.1x)](v)))](u))",
	} {
		got, err := Term(c, env, expr(t, s))
		if e, ok := want.(api.Errno); ok {
			if err != e || !algebra.SameTerm(got, api.Term{}) {
				t.Errorf("%s: %s %d, want %d", s, dumpTerm(got), err, e)
			}
			continue
		}
		if err != api.OK || dumpTerm(got) != want || !algebra.Term(got, []int{4, 1}) {
			t.Errorf("%s: %s %d, want %s", s, dumpTerm(got), err, want)
		}
	}
	if _, err := Term(api.Catalog{}, env, expr(t, "1")); err != api.ErrArg {
		t.Error("a catalog that is not valid")
	}
	if _, err := Term(c, env, api.Expr{Op: api.ENeg}); err != api.ErrArg {
		t.Error("an expression that is not valid")
	}
}

type queryCase struct {
	s    string
	want string
	cols string
	err  api.Errno
}

func queryCases() []queryCase {
	many := "select " + strings.Repeat("t.*, ", 11)
	return []queryCase{
		{"select 1", "project[1i](rows1)", "c1:i", 0},
		{"select 1, 'x' as y, null", "project[1i 'x'x nulln](rows1)", "c1:i y:x c3:n", 0},
		{"select *", "", "", api.ErrName},
		{"select * from t", "project[0.0i 0.1x 0.2b](t)", "t.a:i t.b:x t.c:b", 0},
		{"select u.*, 7, x.b from t as x cross join u", "project[0.3i 0.4i 7i 0.1x](join(t)(u))", "u.a:i u.d:i c3:i b:x", 0},
		{"select t.* from t as x", "", "", api.ErrName},
		{"select t.a from t as x", "", "", api.ErrName},
		{"select a from t, u", "", "", api.ErrMany},
		{"select b from nothing", "", "", api.ErrName},
		{"select t.a from t join u on t.a = u.a", "project[0.0i](join[(=b 0.0i 0.3i)](t)(u))", "a:i", 0},
		{"select d from t left join u on c", "project[0.4i](left[0.2b](t)(u))", "d:i", 0},
		{"select d from t join u on d", "", "", api.ErrType},
		{"select d from t join u on sum(d) = 1", "", "", api.ErrGroup},
		{"select d from t join nothing on q", "", "", api.ErrName},
		{"select d from t join (u cross join v) on v.b = t.b", "project[0.4i](join[(=b 0.5x 0.1x)](t)(join(u)(v)))", "d:i", 0},
		{"select 1 from t join u on v.b = t.b cross join v", "", "", api.ErrName},
		{"select x.y from (select a + 1 as y, b from t) as x", "project[0.0i](project[(+i 0.0i 1i) 0.1x](t))", "y:i", 0},
		{"select * from (select a, d from u) as x", "project[0.0i 0.1i](project[0.0i 0.1i](u))", "x.a:i x.d:i", 0},
		{"select 1 from t, (select t.a) as x", "", "", api.ErrName},
		{"select a from t where b", "", "", api.ErrType},
		{"select a from t where c and null", "project[0.0i](filter[(andb 0.2b nulln)](t))", "a:i", 0},
		{"select a from t where null", "project[0.0i](filter[nulln](t))", "a:i", 0},
		{"select a from t where count(*) = 1", "", "", api.ErrGroup},
		{"select q from t where b", "", "", api.ErrType},
		{"select distinct a from t", "distinct(project[0.0i](t))", "a:i", 0},
		// groups
		{"select b, count(*) from t group by b", "project[0.0x 0.1i](group[0.1x]{count }(t))", "b:x count:i", 0},
		{"select a + 1 from t group by a + 1", "project[0.0i](group[(+i 0.0i 1i)](t))", "c1:i", 0},
		{"select a from t group by b", "", "", api.ErrGroup},
		{"select a + 1 from t group by a", "project[(+i 0.0i 1i)](group[0.0i](t))", "c1:i", 0},
		{"select (a + 1) * 2 from t group by a + 1", "project[(*i 0.0i 2i)](group[(+i 0.0i 1i)](t))", "c1:i", 0},
		{"select 1 + a from t group by a + 1", "", "", api.ErrGroup},
		{"select count(*) from t", "project[0.0i](group{count }(t))", "count:i", 0},
		{"select 1 from t having count(*) > 1", "project[1i](filter[(>b 0.0i 1i)](group{count }(t)))", "c1:i", 0},
		{"select a from t having c", "project[0.0i](filter[0.2b](t))", "a:i", 0},
		{"select a from t having count(*) = 1", "", "", api.ErrGroup},
		{"select sum(a), max(b), sum(a) + count(distinct a), min(t.a) from t having count(a) < sum(a)", "project[0.0i 0.1x (+i 0.0i 0.2i) 0.3i](filter[(<b 0.4i 0.0i)](group{sum 0.0i}{max 0.1x}{count! 0.0i}{min 0.0i}{count 0.0i}(t)))", "sum:i max:x c3:i min:i", 0},
		{"select sum(a), sum(t.a) from t", "project[0.0i 0.0i](group{sum 0.0i}(t))", "sum:i sum:i", 0},
		{"select sum(b) from t", "", "", api.ErrType},
		{"select sum(sum(a)) from t", "", "", api.ErrGroup},
		{"select sum(q) from t", "", "", api.ErrName},
		{"select sum(a + 1) from t where c group by b, a having b = 'x'", "project[0.2i](filter[(=b 0.0x 'x'x)](group[0.1x 0.0i]{sum (+i 0.0i 1i)}(filter[0.2b](t))))", "sum:i", 0},
		{"select 1 from t group by sum(a)", "", "", api.ErrGroup},
		{"select q, sum(b) from t group by a", "", "", api.ErrType},
		{"select q from t group by a having b = 'x'", "", "", api.ErrGroup},
		{"select sum(b) from t group by q", "", "", api.ErrName},
		{"select 1 from t group by 1", "project[0.0i](group[1i](t))", "c1:i", 0},
		{"select * from t group by a, b, c", "project[0.0i 0.1x 0.2b](group[0.0i 0.1x 0.2b](t))", "t.a:i t.b:x t.c:b", 0},
		{"select t.* from t group by c, b, a", "project[0.2i 0.1x 0.0b](group[0.2b 0.1x 0.0i](t))", "t.a:i t.b:x t.c:b", 0},
		{"select * from t group by a, b", "", "", api.ErrGroup},
		{"select u.* from t group by a", "", "", api.ErrName},
		{"select a, a from t group by a, t.a", "project[0.0i 0.0i](group[0.0i 0.0i](t))", "a:i a:i", 0},
		{"select (select a) from t group by a", "project[(scalari project[1.0i](rows1))](group[0.0i](t))", "c1:i", 0},
		{"select (select t.b) from t group by a", "", "", api.ErrName},
		{"select (select q) from t group by a", "", "", api.ErrName},
		{"select (select a) from t group by a, a + 1", "project[(scalari project[1.0i](rows1))](group[0.0i (+i 0.0i 1i)](t))", "c1:i", 0},
		{"select (select a) from t group by (select a)", "project[0.0i](group[(scalari project[1.0i](rows1))](t))", "c1:i", 0},
		{"select (select count(*) from u where u.a = t.a) from t group by a", "project[(scalari project[0.0i](group{count }(filter[(=b 0.0i 1.0i)](u))))](group[0.0i](t))", "c1:i", 0},
		{"select max(a) in (select d from u) from t", "project[(insubb 0.0i project[0.1i](u))](group{max 0.0i}(t))", "c1:b", 0},
		{"select max(a) from t where a in (select max(d) from u where u.a = t.a)", "project[0.0i](group{max 0.0i}(filter[(insubb 0.0i project[0.0i](group{max 0.1i}(filter[(=b 0.0i 1.0i)](u))))](t)))", "max:i", 0},
		{"select case when count(*) > 1 then b else 'x' end from t group by b", "project[(casex (>b 0.1i 1i) 0.0x 'x'x)](group[0.1x]{count }(t))", "c1:x", 0},
		{"select lower(b) || max(b) from t group by lower(b)", "project[(||x 0.0x 0.1x)](group[(f:lowerx 0.1x)]{max 0.1x}(t))", "c1:x", 0},
		{"select count(*) + b from t group by b", "", "", api.ErrType},
		// unions, order, limits
		{"select a from t union all select d from u", "unionall(project[0.0i](t))(project[0.1i](u))", "a:i", 0},
		{"select null as x intersect select b from v", "inter(project[nulln](rows1))(project[0.0x](v))", "x:x", 0},
		{"select a from t except select null", "except(project[0.0i](t))(project[nulln](rows1))", "a:i", 0},
		{"select a from t union select a, b from t", "", "", api.ErrCount},
		{"select a from t union select b from t", "", "", api.ErrType},
		{"select q union select a, b", "", "", api.ErrName},
		{"select a, b from t order by b desc, 1", "sort<1 true><0 false>(project[0.0i 0.1x](t))", "a:i b:x", 0},
		{"select a from t order by b", "", "", api.ErrName},
		{"select a, a from t order by a", "", "", api.ErrMany},
		{"select a from t order by 2", "", "", api.ErrCount},
		{"select a from t limit 3", "limit3 0(sort(project[0.0i](t)))", "a:i", 0},
		{"select a from t order by a limit 3 offset 4", "limit3 4(sort<0 false>(project[0.0i](t)))", "a:i", 0},
		{"select a from t offset 4", "limit-1 4(sort(project[0.0i](t)))", "a:i", 0},
		{"select a from t limit 0 offset 0", "limit0 0(sort(project[0.0i](t)))", "a:i", 0},
		{"select a from t union select d from u order by 1 limit 1", "limit1 0(sort<0 false>(union(project[0.0i](t))(project[0.1i](u))))", "a:i", 0},
		{"select x.a from (select a from t limit 1) as x", "project[0.0i](limit1 0(sort(project[0.0i](t))))", "a:i", 0},
		{many + "1 from t", "", "", api.ErrLong},
		{many + "q from t", "", "", api.ErrName},
		{many[:len("select ")] + strings.Repeat("t.*, ", 10) + "a, b from t", "*", "", 0},
		{"select " + strings.Repeat("t.*, ", 12) + "1 from t order by q", "", "", api.ErrLong},
	}
}

func TestP16_2(t *testing.T) {
	c := some(t)
	for _, x := range queryCases() {
		got, err := Query(c, nil, query(t, x.s))
		if err != x.err || err != api.OK && !algebra.SameRel(got, api.Rel{}) {
			t.Errorf("%s: %s %d, want %d", x.s, dump(got), err, x.err)
		}
		if err != api.OK || x.want == "*" {
			continue
		}
		if dump(got) != x.want || dumpCols(got.Cols) != x.cols {
			t.Errorf("%s:\n got %s %s\nwant %s %s", x.s, dump(got), dumpCols(got.Cols), x.want, x.cols)
		}
	}
	outer := [][]api.Col{{{Table: "o", Name: "q", Type: api.VInt}}}
	for s, want := range map[string]string{
		"select q from t where a = q group by q":                 "project[0.0i](group[1.0i](filter[(=b 0.0i 1.0i)](t)))",
		"select q from t group by a":                             "project[1.0i](group[0.0i](t))",
		"select q + count(*) from t":                             "project[(+i 1.0i 0.0i)](group{count }(t))",
		"select sum(q) from t":                                   "project[0.0i](group{sum 1.0i}(t))",
		"select x.q from (select q) as x":                        "project[0.0i](project[1.0i](rows1))",
		"select (select q + t.a) from t group by a":              "project[(scalari project[(+i 2.0i 1.0i)](rows1))](group[0.0i](t))",
		"select 1 from t join u on d = q":                        "project[1i](join[(=b 0.4i 1.0i)](t)(u))",
		"select a from t union select q":                         "union(project[0.0i](t))(project[1.0i](rows1))",
		"select max(a) from t group by b having max(a) = q":      "project[0.1i](filter[(=b 0.1i 1.0i)](group[0.1x]{max 0.0i}(t)))",
		"select exists (select 1 from u where d = a) from t":     "project[(existsb project[1i](filter[(=b 0.1i 0.0i)](u)))](t)",
		"select exists (select 1 from v where t.a = q) from t":   "project[(existsb project[1i](filter[(=b 1.0i 2.0i)](v)))](t)",
		"select q from t group by a, q having q > 1 order by 1":  "sort<0 false>(project[0.1i](filter[(>b 0.1i 1i)](group[0.0i 1.0i](t))))",
		"select b from t group by b having exists (select b, q)": "project[0.0x](filter[(existsb project[1.0x 2.0i](rows1))](group[0.1x](t)))",
	} {
		got, err := Query(c, outer, query(t, s))
		if err != api.OK || dump(got) != want || !algebra.Rel(got, []int{1}) {
			t.Errorf("%s:\n got %s %d\nwant %s", s, dump(got), err, want)
		}
	}
	r, _ := Query(c, nil, query(t, "select b, t.a + 1, q.d, count(*), sum(t.a) from t, u as q group by b, t.a + 1, q.d"))
	if got := dumpCols(r.Kids[0].Cols); got != "t.b:x :i q.d:i :i :i" {
		t.Errorf("the columns of a group: %s", got)
	}
	if _, err := Query(api.Catalog{}, nil, query(t, "select 1")); err != api.ErrArg {
		t.Error("a catalog that is not valid")
	}
	if _, err := Query(c, nil, api.Query{}); err != api.ErrArg {
		t.Error("a query that is not valid")
	}
}

func TestP16_3(t *testing.T) {
	c := some(t)
	for s, want := range map[string]string{
		"select a from t":                       "sort(project[0.0i](t))",
		"select a from t order by 1":            "sort<0 false>(project[0.0i](t))",
		"select a from t limit 1":               "limit1 0(sort(project[0.0i](t)))",
		"select a from t union select d from u": "sort(union(project[0.0i](t))(project[0.1i](u)))",
	} {
		got, err := Top(c, query(t, s))
		if err != api.OK || dump(got) != want || dumpCols(got.Cols) != "a:i" || !algebra.Rel(got, nil) {
			t.Errorf("%s: %s %d", s, dump(got), err)
		}
	}
	if r, err := Top(c, query(t, "select q")); err != api.ErrName || !algebra.SameRel(r, api.Rel{}) {
		t.Error(err)
	}
	if _, err := Top(c, api.Query{}); err != api.ErrArg {
		t.Error(err)
	}
}

func TestP16_4(t *testing.T) {
	table := func(checks ...api.Expr) api.Table {
		return api.Table{Name: "t", Cols: []api.ColDef{{Name: "a", Type: api.VInt}, {Name: "c", Type: api.VBool}}, Checks: checks}
	}
	l, err := Checks(table(expr(t, "a > 1"), expr(t, "t.c"), expr(t, "null")))
	if err != api.OK || dumpTerms(l) != "(>b 0.0i 1i) 0.1b nulln" {
		t.Error(dumpTerms(l), err)
	}
	if l, err := Checks(table()); err != api.OK || len(l) != 0 {
		t.Error(l, err)
	}
	for _, c := range []struct {
		l   []api.Expr
		err api.Errno
	}{
		{[]api.Expr{{}}, api.ErrArg}, {[]api.Expr{expr(t, "exists (select 1)")}, api.ErrArg}, {[]api.Expr{expr(t, "1 = (select 1)")}, api.ErrArg}, {[]api.Expr{expr(t, "a")}, api.ErrType}, {[]api.Expr{expr(t, "b = 1")}, api.ErrName},
		{[]api.Expr{expr(t, "u.a = 1")}, api.ErrName}, {[]api.Expr{expr(t, "count(*) = 1")}, api.ErrGroup}, {[]api.Expr{expr(t, "a"), {}}, api.ErrType}, {[]api.Expr{expr(t, "c"), {}, expr(t, "a")}, api.ErrArg},
	} {
		if l, err := Checks(table(c.l...)); err != c.err || len(l) != 0 {
			t.Errorf("%v: %v %d", c.l, l, err)
		}
	}
}

func TestP16_5(t *testing.T) {
	c := some(t)
	for _, x := range queryCases() {
		got, err := Query(c, nil, query(t, x.s))
		if err != api.OK {
			continue
		}
		if !algebra.Rel(got, nil) {
			t.Errorf("%s is not valid: %s", x.s, dump(got))
		}
		again, err := Query(c, env, query(t, x.s))
		if err != api.OK || !reflect.DeepEqual(got, again) {
			t.Errorf("%s depends on its surroundings", x.s)
		}
	}
	deep := strings.Repeat("select (", 18) + "select 1 group by 1" + strings.Repeat(") group by 1", 18)
	if _, _, err := parse.Query(deep); err != api.OK {
		t.Fatal(err)
	}
	if _, err := Query(c, nil, query(t, deep)); err != api.OK {
		t.Error("a deep query:", err)
	}
}
