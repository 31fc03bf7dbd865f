package naive

import (
	"fmt"
	"math/rand"
	"strings"
	"testing"

	"tabellion/api"
	"tabellion/bind"
	"tabellion/parse"
	"tabellion/schema"
	"tabellion/tri"
	"tabellion/value"
)

func catalog(t *testing.T) api.Catalog {
	t.Helper()
	c := api.Catalog{Next: 1}
	for _, sql := range []string{"create table t (a int, b text)", "create table u (a int, d int)", "create table e (a int)"} {
		s, _, _ := parse.Stmt(sql)
		c, _ = schema.Create(c, s)
	}
	return c
}

func relation(t *testing.T, sql string) api.Rel {
	t.Helper()
	q, at, err := parse.Query(sql)
	if err != api.OK {
		t.Fatalf("%s: %d at %d", sql, err, at)
	}
	r, err := bind.Query(catalog(t), nil, q)
	if err != api.OK {
		t.Fatalf("%s: %d", sql, err)
	}
	return r
}

func row(l ...any) api.Row {
	var r api.Row
	for _, x := range l {
		switch x := x.(type) {
		case nil:
			r = append(r, api.Value{})
		case int:
			r = append(r, value.Num(x))
		case string:
			r = append(r, value.Str(x))
		case bool:
			r = append(r, value.Bool(x))
		}
	}
	return r
}

func tables() []api.Data {
	return []api.Data{
		{Table: "t", Rows: []api.Row{row(3, "x"), row(1, nil), row(nil, "y"), row(1, "x")}},
		{Table: "u", Rows: []api.Row{row(1, 10), row(3, nil), row(1, 5), row(nil, 7)}},
		{Table: "t", Rows: []api.Row{row(99, "z")}},
	}
}

func text(rows []api.Row) string {
	var l []string
	for _, r := range rows {
		var s []string
		for _, v := range r {
			s = append(s, value.Text(v))
		}
		l = append(l, strings.Join(s, ","))
	}
	return strings.Join(l, " ")
}

func check(t *testing.T, sql, want string) {
	t.Helper()
	if got := text(Run(relation(t, sql), nil, tables())); got != want {
		t.Errorf("%s:\n got %s\nwant %s", sql, got, want)
	}
}

func TestP20_1(t *testing.T) {
	for sql, want := range map[string]string{
		"(select a from u where d = 10)":                         "1",
		"(select a from u where d > 5)":                          "null",
		"(select a from u where d = 11)":                         "null",
		"(select d from u where a = 3)":                          "null",
		"exists (select * from u)":                               "true",
		"exists (select * from e)":                               "false",
		"1 in (select a from u)":                                 "true",
		"2 in (select a from u)":                                 "null",
		"2 in (select a from u where a is not null)":             "false",
		"null in (select a from u)":                              "null",
		"null in (select a from e)":                              "false",
		"2 not in (select a from u)":                             "null",
		"1 + (select max(d) from u)":                             "11",
		"not exists (select 1 from u where a = d)":               "true",
		"(select (select count(*) from u) from u limit 1)":       "4",
		"case when 3 in (select a from u) then 'y' else 'n' end": "'y'",
	} {
		r := relation(t, "select "+sql)
		if got := value.Text(Term(r.Terms[0], []api.Row{nil}, tables())); got != want {
			t.Errorf("%s: %s, want %s", sql, got, want)
		}
	}
	outer := api.Term{Op: api.ECol, Depth: 1, At: 0}
	r := api.Rel{Op: api.RFilter, Kids: []api.Rel{{Op: api.RTable, Table: "u"}}, Terms: []api.Term{{Op: api.EEq, Kids: []api.Term{{Op: api.ECol}, outer}}}}
	env := []api.Row{row(3), row(1)}
	if got := text(Run(r, env, tables())); got != "3,null" {
		t.Errorf("surrounding rows: %s", got)
	}
	scalar := api.Term{Op: api.EExists, Sub: []api.Rel{r}}
	if Term(scalar, env, tables()) != value.Bool(true) || Term(scalar, []api.Row{row(7)}, tables()) != value.Bool(false) || Term(outer, env, nil) != value.Num(1) {
		t.Error("surrounding rows of a term")
	}
}

func TestP20_2(t *testing.T) {
	check(t, "select * from t", "3,'x' 1,null null,'y' 1,'x'")
	check(t, "select * from e", "")
	check(t, "select 1, 'a'", "1,'a'")
	check(t, "select a from t where a < 2", "1 1")
	check(t, "select b from t where not (a < 2)", "'x'")
	check(t, "select b from t where (a < 2) is null", "'y'")
	check(t, "select a + 1, b || b from t", "4,'xx' 2,null null,'yy' 2,'xx'")
	check(t, "select t.a, d from t, u where b = 'x'", "3,10 3,null 3,5 3,7 1,10 1,null 1,5 1,7")
	check(t, "select t.a, d from t join u on t.a = u.a", "3,null 1,10 1,5 1,10 1,5")
	check(t, "select t.a, u.a, d from t left join u on t.a = u.a and d > 5", "3,null,null 1,1,10 null,null,null 1,1,10")
	check(t, "select * from e left join t on true", "")
	check(t, "select t.a, e.a from t left join e on true", "3,null 1,null null,null 1,null")
	check(t, "select a, count(*), sum(a), max(b) from t group by a", "3,1,3,'x' 1,2,2,'x' null,1,null,'y'")
	check(t, "select b, count(*) from t group by b", "'x',2 null,1 'y',1")
	check(t, "select count(*), count(a), count(distinct a), sum(a), min(b) from t", "4,3,2,5,'x'")
	check(t, "select count(*), sum(a) from e", "0,null")
	check(t, "select count(*) from e group by a", "")
	check(t, "select count(*) from t group by 1", "4")
	check(t, "select a from t group by a having count(*) > 1", "1")
	check(t, "select distinct a from t", "3 1 null")
	check(t, "select distinct b from t where a = 1", "null 'x'")
	check(t, "select t.a from t where exists (select 1 from u where u.a = t.a and d > 5)", "1 1")
	check(t, "select a, (select max(d) from u where u.a = t.a) from t", "3,null 1,10 null,null 1,10")
	check(t, "select a from t where a not in (select a from u where a is not null)", "")
	check(t, "select a from u where d not in (select a from t)", "")
}

func TestP20_3(t *testing.T) {
	check(t, "select a from t union all select a from u", "3 1 null 1 1 3 1 null")
	check(t, "select a from t union select d from u", "3 1 null 10 5 7")
	check(t, "select a from t intersect all select a from u", "3 1 null 1")
	check(t, "select a from t intersect select a from u", "3 1 null")
	check(t, "select a from t intersect all select d from u", "null")
	check(t, "select a from t except all select 1", "3 null 1")
	check(t, "select a from t except select 1", "3 null")
	check(t, "select 1 except all select a from t", "")
	check(t, "select a from t except all select a from e", "3 1 null 1")
	check(t, "select a, b from t order by a", "null,'y' 1,null 1,'x' 3,'x'")
	check(t, "select a, b from t order by a desc", "3,'x' 1,null 1,'x' null,'y'")
	check(t, "select a, b from t order by b desc, a desc", "null,'y' 3,'x' 1,'x' 1,null")
	check(t, "select a, b from t limit 2", "null,'y' 1,null")
	check(t, "select a, b from t order by 1 limit 2 offset 1", "1,null 1,'x'")
	check(t, "select a, b from t offset 3", "3,'x'")
	check(t, "select a, b from t limit 0", "")
	check(t, "select a, b from t limit 9 offset 9", "")
	r := relation(t, "select a from t order by a")
	if got := text(Top(r, tables())); got != "null 1 1 3" {
		t.Error(got)
	}
	got := Top(r, tables())
	got[0][0] = value.Num(5)
	if len(Top(relation(t, "select a from e"), tables())) != 0 {
		t.Error("rows of nothing")
	}
}

func TestP20_4(t *testing.T) {
	r := rand.New(rand.NewSource(20))
	number := func() any {
		if r.Intn(4) == 0 {
			return nil
		}
		return r.Intn(3)
	}
	conditions := []string{"t.a < u.d", "t.a = 1", "t.b = 'x' or u.d is null", "t.a in (u.a, 1)", "exists (select 1 from u as v where v.a = t.a)", "null", "t.a + u.d between 1 and 3", "t.a in (select d from u)"}
	for range 200 {
		db := []api.Data{{Table: "t"}, {Table: "u"}}
		for range r.Intn(6) {
			db[0].Rows = append(db[0].Rows, row(number(), []any{nil, "x", "y"}[r.Intn(3)]))
			db[1].Rows = append(db[1].Rows, row(number(), number()))
		}
		run := func(format string, l ...any) []api.Row {
			return Run(relation(t, fmt.Sprintf(format, l...)), nil, db)
		}
		c := conditions[r.Intn(len(conditions))]
		all := run("select * from t, u")
		yes, no, maybe := run("select * from t, u where %s", c), run("select * from t, u where not (%s)", c), run("select * from t, u where (%s) is null", c)
		if !value.Bag(append(append(append([]api.Row{}, yes...), no...), maybe...), all) {
			t.Fatalf("%s: %s; %s; %s of %s", c, text(yes), text(no), text(maybe), text(all))
		}
		if text(run("select * from t join u on %s", c)) != text(yes) {
			t.Fatalf("%s: a join is not the filter of all pairs", c)
		}
		both, rest := run("select a from t intersect all select a from u"), run("select a from t except all select a from u")
		if !value.Bag(append(both, rest...), run("select a from t")) {
			t.Fatal("intersect all and except all")
		}
		if got, want := text(run("select sum(n) from (select count(*) as n from t group by a) as x")), fmt.Sprint(len(db[0].Rows)); got != want && len(db[0].Rows) > 0 {
			t.Fatal(got, want)
		}
		before := text(run("select a, d from u order by d desc"))
		r.Shuffle(len(db[1].Rows), func(i, j int) { db[1].Rows[i], db[1].Rows[j] = db[1].Rows[j], db[1].Rows[i] })
		if text(run("select a, d from u order by d desc")) != before {
			t.Fatal("a sort depends on the order of its input")
		}
	}
}

func TestAnything(t *testing.T) {
	for op := -1; op < 16; op++ {
		for kids := range 3 {
			r := api.Rel{Op: op, Table: "t", Limit: -3, Skip: -3, Keys: []api.By{{At: 9}, {At: -1}}, Terms: []api.Term{{Op: api.ECol, At: 7}}}
			for range kids {
				r.Kids = append(r.Kids, api.Rel{Op: api.RTable, Table: "t"})
			}
			Run(r, nil, tables())
		}
	}
	for op := range 30 {
		if v := Term(api.Term{Op: op}, nil, nil); tri.From(v) == 7 {
			t.Error(v)
		}
	}
}
