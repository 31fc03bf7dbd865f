package parse

import (
	"fmt"
	"reflect"
	"strings"
	"testing"

	"tabellion/api"
	"tabellion/syntax"
)

var opNames = []string{
	"", "const", "col", "neg", "not", "add", "sub", "mul", "div", "mod", "cat", "eq", "ne", "lt", "le", "gt", "ge", "and", "or",
	"null?", "like", "in", "between", "case", "func", "agg", "scalar", "exists", "insub",
}

// dump writes a tree as a text that shows all that is filled.
func dump(x any) string {
	switch x := x.(type) {
	case api.Expr:
		return dumpExpr(x)
	case api.Query:
		return dumpQuery(x)
	case api.From:
		return dumpFrom(x)
	case api.Item:
		if x.Star {
			return fmt.Sprintf("%s*", x.Table)
		}
		return strings.TrimSuffix(dump(x.E)+":"+x.As, ":")
	case api.Order:
		return strings.TrimSuffix(fmt.Sprintf("%s%d%v", x.Name, x.At, x.Down), "false")
	case api.Stmt:
		return dumpStmt(x)
	}
	return fmt.Sprint(x)
}

func dumpAll[T any](l []T) string {
	var parts []string
	for _, x := range l {
		parts = append(parts, dump(x))
	}
	return strings.Join(parts, " ")
}

func dumpExpr(e api.Expr) string {
	switch e.Op {
	case api.EConst:
		return fmt.Sprintf("%d/%d/%s", e.V.Kind, e.V.N, e.V.S)
	case api.ECol:
		return strings.TrimPrefix(e.Table+"."+e.Name, ".")
	}
	s := opNames[e.Op] + e.Name
	if e.Distinct {
		s += "!"
	}
	for _, k := range e.Kids {
		s += " " + dump(k)
	}
	for _, k := range e.Sub {
		s += " " + dump(k)
	}
	return "(" + s + ")"
}

func dumpQuery(q api.Query) string {
	s := []string{"", "sel", "union", "inter", "except"}[q.Op]
	for _, part := range []struct {
		is   bool
		text string
	}{
		{q.All, "all"}, {q.Distinct, "distinct"}, {len(q.Kids) > 0, dumpAll(q.Kids)}, {len(q.Items) > 0, dumpAll(q.Items)},
		{len(q.From) > 0, "from " + dumpAll(q.From)}, {len(q.Where) > 0, "where " + dumpAll(q.Where)}, {len(q.Group) > 0, "group " + dumpAll(q.Group)},
		{len(q.Having) > 0, "having " + dumpAll(q.Having)}, {len(q.Order) > 0, "order " + dumpAll(q.Order)},
		{q.Limit >= 0, fmt.Sprint("limit ", q.Limit)}, {q.Skip > 0, fmt.Sprint("skip ", q.Skip)},
	} {
		if part.is {
			s += " " + part.text
		}
	}
	return "[" + s + "]"
}

func dumpFrom(f api.From) string {
	s := []string{"", "table", "query", "cross", "inner", "left"}[f.Kind] + " " + f.Name + ":" + f.As
	return "<" + s + " " + dumpAll(f.Sub) + dumpAll(f.Kids) + " " + dumpAll(f.On) + ">"
}

func dumpStmt(s api.Stmt) string {
	out := fmt.Sprint(s.Kind, " ", s.Table, " ", s.Name, s.Cols, s.Names, s.Unique, s.Keys, s.Refs)
	out += "checks " + dumpAll(s.Checks) + " rows "
	for _, r := range s.Rows {
		out += "(" + dumpAll(r) + ")"
	}
	out += " sets "
	for _, a := range s.Sets {
		out += a.Name + "=" + dump(a.E)
	}
	return out + " where " + dumpAll(s.Where) + " q " + dumpAll(s.Q)
}

func TestP10_1Expr(t *testing.T) {
	for s, want := range map[string]string{
		"a + 2 * b":                          "(add a (mul 2/2/ b))",
		"not a = 1 or b is not null":         "(or (not (eq a 2/1/)) (not (null? b)))",
		"a or b and c or d":                  "(or (or a (and b c)) d)",
		"not not a and b":                    "(and (not (not a)) b)",
		"a - b - c":                          "(sub (sub a b) c)",
		"a - (b - c)":                        "(sub a (sub b c))",
		"a / b * c % d":                      "(mod (mul (div a b) c) d)",
		"a || b || c + d":                    "(cat (cat a b) (add c d))",
		"- - a * - b":                        "(mul (neg (neg a)) (neg b))",
		"-5":                                 "(neg 2/5/)",
		"a <> b":                             "(ne a b)",
		"a < b and c <= d or e > f":          "(or (and (lt a b) (le c d)) (gt e f))",
		"a >= b":                             "(ge a b)",
		"a is null":                          "(null? a)",
		"a like 'x' and b not like c":        "(and (like a 3/0/x) (not (like b c)))",
		"a between 1 and 2 and c":            "(and (between a 2/1/ 2/2/) c)",
		"a not between b || c and d":         "(not (between a (cat b c) d))",
		"a in (1, b or c)":                   "(in a 2/1/ (or b c))",
		"a not in (1)":                       "(not (in a 2/1/))",
		"a in (select 1)":                    "(insub a [sel 2/1/])",
		"a not in (select 1 limit 2)":        "(not (insub a [sel 2/1/ limit 2]))",
		"a in ((select 1))":                  "(in a (scalar [sel 2/1/]))",
		"a in (((select 1)))":                "(in a (scalar [sel 2/1/]))",
		"a in ((select 1), 2)":               "(in a (scalar [sel 2/1/]) 2/2/)",
		"a in ((select 1) + 1)":              "(in a (add (scalar [sel 2/1/]) 2/1/))",
		"a in (((select 1)) + 1, 3)":         "(in a (add (scalar [sel 2/1/]) 2/1/) 2/3/)",
		"a in ((select 1) limit 1)":          "(insub a [sel 2/1/ limit 1])",
		"a in ((select 1) union select 2)":   "(insub a [union [sel 2/1/] [sel 2/2/]])",
		"a in (((select 1) union select 2))": "(in a (scalar [union [sel 2/1/] [sel 2/2/]]))",
		"a in ((select 1) not in (1))":       "(in a (not (in (scalar [sel 2/1/]) 2/1/)))",
		"a in ((b))":                         "(in a b)",
		"(a)":                                "a",
		"((a) + 1) * 2":                      "(mul (add a 2/1/) 2/2/)",
		"((((a))) and b)":                    "(and a b)",
		"(((a) - b) - c)":                    "(sub (sub a b) c)",
		"((not a) or b)":                     "(or (not a) b)",
		"((select 1))":                       "(scalar [sel 2/1/])",
		"(((select 1)) * 2)":                 "(mul (scalar [sel 2/1/]) 2/2/)",
		"((select 1) intersect select 2)":    "(scalar [inter [sel 2/1/] [sel 2/2/]])",
		"((select 1) order by 1 offset 2)":   "(scalar [sel 2/1/ order 1 skip 2])",
		"(((select 1)) except all select 2)": "(scalar [except all [sel 2/1/] [sel 2/2/]])",
		"((select 1) = 1)":                   "(eq (scalar [sel 2/1/]) 2/1/)",
		"((select 1) is null and b)":         "(and (null? (scalar [sel 2/1/])) b)",
		"exists (select 1)":                  "(exists [sel 2/1/])",
		"exists ((select 1) union select 2)": "(exists [union [sel 2/1/] [sel 2/2/]])",
		"not exists ((select 1))":            "(not (exists [sel 2/1/]))",
		"case when a then b end":             "(case a b)",
		"case when a then b when c then d else e or f end": "(case a b c d (or e f))",
		"count(*)":          "(aggcount)",
		"count (a)":         "(aggcount a)",
		"Sum(distinct a+b)": "(aggsum! (add a b))",
		"max(min(a))":       "(aggmax (aggmin a))",
		"f()":               "(funcf)",
		"f(a, b or c)":      "(funcf a (or b c))",
		`"left"(a)`:         "(funcleft a)",
		"t.a":               "t.a",
		`"select"."from"`:   "select.from",
		"count":             "count",
		"true":              "1/1/",
		"false or null":     "(or 1/0/ 0/0/)",
		"'it''s'":           "3/0/it's",
		"1 + -- two\n 2":    "(add 2/1/ 2/2/)",
	} {
		e, at, err := Expr(s)
		if got := dump(e); got != want || at != 0 || err != api.OK {
			t.Errorf("%s: %s %d %d, want %s", s, got, at, err, want)
		}
	}
}

func TestP10_1Query(t *testing.T) {
	for s, want := range map[string]string{
		"select 1":                                             "[sel 2/1/]",
		"select distinct a x, b as y, t.*, *":                  "[sel distinct a:x b:y t* *]",
		"select a.b.*":                                         "",
		"select a from t":                                      "[sel a from <table t:  >]",
		"select a from t x, u as y":                            "[sel a from <cross : <table t:x  > <table u:y  > >]",
		"select * from t join u on a inner join v on b":        "[sel * from <inner : <inner : <table t:  > <table u:  > a> <table v:  > b>]",
		"select * from t left join u on a cross join v":        "[sel * from <cross : <left : <table t:  > <table u:  > a> <table v:  > >]",
		"select * from t, u join v on a, w":                    "[sel * from <cross : <cross : <table t:  > <inner : <table u:  > <table v:  > a> > <table w:  > >]",
		"select * from t join (u join v on a) on b":            "[sel * from <inner : <table t:  > <inner : <table u:  > <table v:  > a> b>]",
		"select * from (t)":                                    "[sel * from <table t:  >]",
		"select * from (select 1) x":                           "[sel * from <query :x [sel 2/1/] >]",
		"select * from ((select 1)) as x":                      "[sel * from <query :x [sel 2/1/] >]",
		"select * from ((select 1) x)":                         "[sel * from <query :x [sel 2/1/] >]",
		"select * from ((select 1) x join t on a) join u on b": "[sel * from <inner : <inner : <query :x [sel 2/1/] > <table t:  > a> <table u:  > b>]",
		"select * from ((select 1) union select 2) x":          "[sel * from <query :x [union [sel 2/1/] [sel 2/2/]] >]",
		"select * from ((select 1) limit 1) x":                 "[sel * from <query :x [sel 2/1/ limit 1] >]",
		"select * from (((select 1)) x, t)":                    "[sel * from <cross : <query :x [sel 2/1/] > <table t:  > >]",
		"select * from ((t) cross join u)":                     "[sel * from <cross : <table t:  > <table u:  > >]",
		"select * from ((t, u))":                               "[sel * from <cross : <table t:  > <table u:  > >]",
		"select a from t where b group by c, d having e order by f desc, 2 asc, g limit 3 offset 4": "[sel a from <table t:  > where b group c d having e order f0true 2 g0 limit 3 skip 4]",
		"select 1 limit 0 offset 0":                              "[sel 2/1/ limit 0]",
		"select 1 having true":                                   "[sel 2/1/ having 1/1/]",
		"select 1 union select 2 union all select 3":             "[union all [union [sel 2/1/] [sel 2/2/]] [sel 2/3/]]",
		"select 1 union select 2 intersect all select 3":         "[union [sel 2/1/] [inter all [sel 2/2/] [sel 2/3/]]]",
		"select 1 except all select 2 intersect select 3":        "[except all [sel 2/1/] [inter [sel 2/2/] [sel 2/3/]]]",
		"select 1 intersect select 2 except select 3 order by 1": "[except [inter [sel 2/1/] [sel 2/2/]] [sel 2/3/] order 1]",
		"select 1 union (select 2 limit 1) limit 3":              "[union [sel 2/1/] [sel 2/2/ limit 1] limit 3]",
		"(select 1 limit 1) union select 2":                      "[union [sel 2/1/ limit 1] [sel 2/2/]]",
		"(select 1) limit 2":                                     "[sel 2/1/ limit 2]",
		"(select 1 offset 0) limit 2":                            "[sel 2/1/ limit 2]",
		"((select 1)) order by a":                                "[sel 2/1/ order a0]",
		"(select 1 union select 2) intersect select 3":           "[inter [union [sel 2/1/] [sel 2/2/]] [sel 2/3/]]",
		"select 1 union (select 2 union select 3)":               "[union [sel 2/1/] [union [sel 2/2/] [sel 2/3/]]]",
	} {
		q, at, err := Query(s)
		if want == "" {
			if err != api.ErrForm {
				t.Errorf("%s: %d %d", s, at, err)
			}
			continue
		}
		if got := dump(q); got != want || at != 0 || err != api.OK {
			t.Errorf("%s:\n got %s %d %d\nwant %s", s, got, at, err, want)
		}
	}
}

func expr(s string) api.Expr {
	e, _, _ := Expr(s)
	return e
}

func query(s string) api.Query {
	q, _, _ := Query(s)
	return q
}

func TestP10_1Stmt(t *testing.T) {
	for s, want := range map[string]api.Stmt{
		"select 1":                  {Kind: api.SQuery, Q: []api.Query{query("select 1")}},
		"(select 1) union select 2": {Kind: api.SQuery, Q: []api.Query{query("select 1 union select 2")}},
		"explain (select 1)":        {Kind: api.SExplain, Q: []api.Query{query("select 1")}},
		"create table t (a int)":    {Kind: api.SCreate, Table: "t", Cols: []api.ColDef{{Name: "a", Type: api.VInt}}},
		`create table t (a int not null, primary key (a, "select"), b text, unique (b), check (a > 1), "select" bool not null, foreign key (a, b) references u (c, d), check (b), unique (a))`: {
			Kind: api.SCreate, Table: "t",
			Cols:   []api.ColDef{{Name: "a", Type: api.VInt, NotNull: true}, {Name: "b", Type: api.VText}, {Name: "select", Type: api.VBool, NotNull: true}},
			Keys:   []api.KeyDef{{Primary: true, Names: []string{"a", "select"}}, {Names: []string{"b"}}, {Names: []string{"a"}}},
			Refs:   []api.RefDef{{Names: []string{"a", "b"}, Table: "u", To: []string{"c", "d"}}},
			Checks: []api.Expr{expr("a > 1"), expr("b")},
		},
		"create index i on t (a, b)":                {Kind: api.SIndex, Name: "i", Table: "t", Names: []string{"a", "b"}},
		"create unique index i on t (a)":            {Kind: api.SIndex, Name: "i", Table: "t", Names: []string{"a"}, Unique: true},
		"drop table t":                              {Kind: api.SDrop, Table: "t"},
		"drop index i":                              {Kind: api.SDrop, Name: "i"},
		"insert into t values (1), (2, 3)":          {Kind: api.SInsert, Table: "t", Rows: [][]api.Expr{{expr("1")}, {expr("2"), expr("3")}}},
		"insert into t values ((select 1))":         {Kind: api.SInsert, Table: "t", Rows: [][]api.Expr{{expr("(select 1)")}}},
		"insert into t (a, b) values (1)":           {Kind: api.SInsert, Table: "t", Names: []string{"a", "b"}, Rows: [][]api.Expr{{expr("1")}}},
		"insert into t (a) select 1":                {Kind: api.SInsert, Table: "t", Names: []string{"a"}, Q: []api.Query{query("select 1")}},
		"insert into t (select 1 limit 1)":          {Kind: api.SInsert, Table: "t", Q: []api.Query{query("select 1 limit 1")}},
		"insert into t ((select 1)) union select 2": {Kind: api.SInsert, Table: "t", Q: []api.Query{query("select 1 union select 2")}},
		"insert into t (a) (select 1)":              {Kind: api.SInsert, Table: "t", Names: []string{"a"}, Q: []api.Query{query("select 1")}},
		"update t set a = 1, b = a or b where c":    {Kind: api.SUpdate, Table: "t", Sets: []api.Assign{{Name: "a", E: expr("1")}, {Name: "b", E: expr("a or b")}}, Where: []api.Expr{expr("c")}},
		"update t set a = 1 = 2":                    {Kind: api.SUpdate, Table: "t", Sets: []api.Assign{{Name: "a", E: expr("1 = 2")}}},
		"delete from t":                             {Kind: api.SDelete, Table: "t"},
		"delete from t where a in (1)":              {Kind: api.SDelete, Table: "t", Where: []api.Expr{expr("a in (1)")}},
		"begin":                                     {Kind: api.SBegin}, "COMMIT": {Kind: api.SCommit}, "rollback": {Kind: api.SRollback}, "analyze": {Kind: api.SAnalyze},
		"vacuum": {Kind: api.SVacuum}, " checkpoint -- now": {Kind: api.SCheck},
	} {
		got, at, err := Stmt(s)
		if !syntax.SameStmt(got, want) || at != 0 || err != api.OK {
			t.Errorf("%s: %s %d %d", s, dump(got), at, err)
		}
	}
}

func TestErrors(t *testing.T) {
	long := "select 1" + strings.Repeat(",1", 64)
	deep := strings.Repeat("- ", 40) + "1"
	for _, c := range []struct {
		kind, s string
		at      int
		err     api.Errno
	}{
		{"e", "a = b = c", 6, api.ErrForm}, {"e", "a in ()", 6, api.ErrForm}, {"q", "select", 6, api.ErrShort}, {"e", "", 0, api.ErrShort},
		{"e", "  ", 2, api.ErrShort}, {"e", "a !", 2, api.ErrForm}, {"e", "a b 'x", 4, api.ErrShort}, {"e", "a +", 3, api.ErrShort}, {"e", "a + -- x", 8, api.ErrShort},
		{"e", "a not = b", 6, api.ErrForm}, {"e", "a not", 5, api.ErrShort}, {"e", "a is 1", 5, api.ErrForm}, {"e", "a is not 1", 9, api.ErrForm},
		{"e", "a = b not like c", 6, api.ErrForm}, {"e", "a is null is null", 10, api.ErrForm}, {"e", "a = not b", 4, api.ErrForm}, {"e", "not", 3, api.ErrShort},
		{"e", "- not a", 2, api.ErrForm}, {"e", "a between b and", 15, api.ErrShort}, {"e", "a between b or c", 12, api.ErrForm}, {"e", "a in 1", 5, api.ErrForm},
		{"e", "a in (1,)", 8, api.ErrForm}, {"e", "a in (select 1, 2", 17, api.ErrShort}, {"e", "a in (select 1) , 2", 16, api.ErrForm}, {"e", "a in ((select 1) 2)", 17, api.ErrForm},
		{"e", "a in ((select 1) limit 1, 2)", 24, api.ErrForm}, {"e", "(a", 2, api.ErrShort}, {"e", "a)", 1, api.ErrForm}, {"e", "()", 1, api.ErrForm}, {"e", "((a) b)", 5, api.ErrForm},
		{"e", "((select 1) 1)", 12, api.ErrForm}, {"e", "((select 1 limit 1) limit 2)", 20, api.ErrForm}, {"e", "(select 1) union select 2", 11, api.ErrForm}, {"e", "t.", 2, api.ErrShort},
		{"e", "t.1", 2, api.ErrForm}, {"e", "t.a.b", 3, api.ErrForm}, {"e", "t.select", 2, api.ErrForm}, {"e", "count(distinct *)", 15, api.ErrForm}, {"e", "sum(*)", 4, api.ErrForm},
		{"e", "count()", 6, api.ErrForm}, {"e", "sum(a, b)", 5, api.ErrForm}, {"e", "f(distinct a)", 2, api.ErrForm}, {"e", "f(*)", 2, api.ErrForm}, {"e", "f(a,)", 4, api.ErrForm},
		{"e", "f(select 1)", 2, api.ErrForm}, {"e", "case end", 5, api.ErrForm}, {"e", "case when a end", 12, api.ErrForm}, {"e", "case when a then b", 18, api.ErrShort}, {"e", "case a when b then c end", 5, api.ErrForm},
		{"e", "case when a then b else c else d end", 26, api.ErrForm}, {"e", "exists select 1", 7, api.ErrForm}, {"e", "exists (a)", 8, api.ErrForm}, {"e", "exists ((a))", 9, api.ErrForm},
		{"e", "select 1", 0, api.ErrForm}, {"e", "from", 0, api.ErrForm}, {"e", "1 2", 2, api.ErrForm}, {"e", "a;", 1, api.ErrForm},
		{"q", "", 0, api.ErrShort}, {"q", "a", 0, api.ErrForm}, {"q", "select from t", 7, api.ErrForm}, {"q", "select a,", 9, api.ErrShort}, {"q", "select a as from t", 12, api.ErrForm}, {"q", "select a as 1", 12, api.ErrForm},
		{"q", "select * x", 9, api.ErrForm}, {"q", "select t.* x", 11, api.ErrForm}, {"q", "select a from", 13, api.ErrShort}, {"q", "select a from 1", 14, api.ErrForm}, {"q", "select a from t join u", 22, api.ErrShort},
		{"q", "select a from t join u where a", 23, api.ErrForm}, {"q", "select a from t inner u", 22, api.ErrForm}, {"q", "select a from t left u", 21, api.ErrForm}, {"q", "select a from t cross join u on a", 29, api.ErrForm},
		{"q", "select a from (select 1)", 24, api.ErrShort}, {"q", "select a from (select 1) where a", 25, api.ErrForm}, {"q", "select a from ((select 1)) where a", 27, api.ErrForm}, {"q", "select a from ((select 1) join t on a)", 26, api.ErrForm},
		{"q", "select a from ((select 1), t)", 25, api.ErrForm}, {"q", "select a from (t) x", 18, api.ErrForm}, {"q", "select a from ((select 1 limit 1) limit 2) x", 34, api.ErrForm}, {"q", "select a from ((select 1) union select 2) join", 42, api.ErrForm},
		{"q", "select a where", 14, api.ErrShort}, {"q", "select a group a", 15, api.ErrForm}, {"q", "select a group by", 17, api.ErrShort}, {"q", "select a having b group by c", 18, api.ErrForm}, {"q", "select a order by 0", 18, api.ErrForm},
		{"q", "select a order by a + 1", 20, api.ErrForm}, {"q", "select a order by t.a", 19, api.ErrForm}, {"q", "select a limit b", 15, api.ErrForm}, {"q", "select a limit -1", 15, api.ErrForm}, {"q", "select a offset 1 limit 1", 18, api.ErrForm},
		{"q", "select a limit 1 union select b", 17, api.ErrForm}, {"q", "select a union", 14, api.ErrShort}, {"q", "select a union distinct select b", 15, api.ErrForm}, {"q", "(select 1 limit 1) limit 2", 19, api.ErrForm},
		{"q", "(select 1 order by 1) offset 2", 22, api.ErrForm}, {"q", "(select 1 offset 1) order by 1", 20, api.ErrForm}, {"q", "((select 1 limit 0)) limit 2", 21, api.ErrForm}, {"q", "(select 1", 9, api.ErrShort}, {"q", "select 1;", 8, api.ErrForm},
		{"q", long, 0, api.ErrLong}, {"q", " " + long, 1, api.ErrLong}, {"e", deep, 0, api.ErrLong}, {"e", "-- x\n" + deep, 5, api.ErrLong}, {"e", deep + " 1", len(deep) + 1, api.ErrForm},
		{"q", "select 1 from t" + strings.Repeat(",t", 8), 0, api.ErrLong}, {"q", "select a from ((((" + strings.Repeat("(", 1500), 1518, api.ErrShort}, {"e", strings.Repeat(" ", 2001), 0, api.ErrLong},
		{"s", "", 0, api.ErrShort}, {"s", "create", 6, api.ErrShort}, {"s", "create t", 7, api.ErrForm}, {"s", "create unique table t", 14, api.ErrForm}, {"s", "create table t ()", 16, api.ErrForm}, {"s", "create table t (unique (a))", 16, api.ErrForm},
		{"s", "create table t (primary key (a), a int)", 16, api.ErrForm}, {"s", "create table t (a)", 17, api.ErrForm}, {"s", "create table t (a int null)", 22, api.ErrForm}, {"s", "create table t (a int not)", 25, api.ErrForm},
		{"s", "create table t (a int,)", 22, api.ErrForm}, {"s", "create table t (a int, primary (a))", 31, api.ErrForm}, {"s", "create table t (a int, unique ())", 31, api.ErrForm}, {"s", "create table t (a int, check a)", 29, api.ErrForm},
		{"s", "create table t (a int, check (select 1))", 30, api.ErrForm}, {"s", "create table t (a int, foreign key (a) references t)", 51, api.ErrForm}, {"s", "create table t (a int", 21, api.ErrShort}, {"s", "create table select (a int)", 13, api.ErrForm},
		{"s", "create index on t (a)", 13, api.ErrForm}, {"s", "create index i on t", 19, api.ErrShort}, {"s", "drop t", 5, api.ErrForm}, {"s", "drop table", 10, api.ErrShort}, {"s", "insert t", 7, api.ErrForm}, {"s", "insert into t", 13, api.ErrShort},
		{"s", "insert into t (", 15, api.ErrShort}, {"s", "insert into t () values (1)", 15, api.ErrForm}, {"s", "insert into t (a,) values (1)", 17, api.ErrForm}, {"s", "insert into t (1) values (1)", 15, api.ErrForm}, {"s", "insert into t values", 20, api.ErrShort},
		{"s", "insert into t values ()", 22, api.ErrForm}, {"s", "insert into t values (select 1)", 22, api.ErrForm}, {"s", "insert into t (a) 1", 18, api.ErrForm}, {"s", "update t a = 1", 9, api.ErrForm}, {"s", "update t set a", 14, api.ErrShort},
		{"s", "update t set t.a = 1", 14, api.ErrForm}, {"s", "update t set a = 1,", 19, api.ErrShort}, {"s", "delete t", 7, api.ErrForm}, {"s", "delete from t where", 19, api.ErrShort}, {"s", "explain delete from t", 8, api.ErrForm}, {"s", "begin begin", 6, api.ErrForm},
		{"s", "begin;", 5, api.ErrForm}, {"s", "a", 0, api.ErrForm}, {"s", "create table t (a int" + strings.Repeat(",a int", 16) + ")", 0, api.ErrLong}, {"s", " insert into t values (1" + strings.Repeat(",1", 16) + ")", 1, api.ErrLong},
	} {
		var at int
		var err api.Errno
		var result any
		switch c.kind {
		case "e":
			result, at, err = Expr(c.s)
		case "q":
			result, at, err = Query(c.s)
		case "s":
			result, at, err = Stmt(c.s)
		}
		if at != c.at || err != c.err || !reflect.ValueOf(result).IsZero() {
			t.Errorf("%s: %d %d, want %d %d", c.s, at, err, c.at, c.err)
		}
	}
}

func TestP10_2(t *testing.T) {
	for _, c := range []struct {
		s   string
		n   int
		at  int
		err api.Errno
	}{
		{"", 0, 0, 0}, {" --", 0, 0, 0}, {"begin;", 1, 0, 0}, {"begin; commit ;select 1;", 3, 0, 0}, {"begin", 0, 5, api.ErrShort}, {";", 0, 0, api.ErrForm}, {"begin;;", 0, 6, api.ErrForm},
		{"begin; 'x", 0, 7, api.ErrShort}, {"begin commit;", 0, 6, api.ErrForm},
		{"begin; select " + strings.Repeat("- ", 40) + "1; commit;", 0, 7, api.ErrLong},
		{"select " + strings.Repeat("- ", 40) + "1; begin; select " + strings.Repeat("- ", 41) + "1;", 0, 0, api.ErrLong},
		{"select " + strings.Repeat("- ", 40) + "1; begin", 0, 95, api.ErrShort},
		{strings.Repeat("begin;", 334), 0, 0, api.ErrLong},
	} {
		l, at, err := Script(c.s)
		if len(l) != c.n || at != c.at || err != c.err {
			t.Errorf("%s: %d statements, %d %d", c.s, len(l), at, err)
		}
	}
	l, _, _ := Script("begin; delete from t;")
	if len(l) != 2 || l[0].Kind != api.SBegin || l[1].Table != "t" {
		t.Error(l)
	}
}

func TestP10_3(t *testing.T) {
	a := expr("not (a + 1) * 2 = t.b or f(c) like 'X'")
	for _, s := range []string{
		"NOT(a+1)*2=T.B OR F(C)LIKE'X'", "((not (((a) + (1)) * 2) = t.b)) or (f((c)) like 'X')", "not\n(a\t+ 1) --\r\n* 2 = t . b or f (c) like 'X'",
	} {
		if !syntax.SameExpr(expr(s), a) {
			t.Errorf("%s: %s", s, dump(expr(s)))
		}
	}
	if expr("'X'").V.S != "X" || syntax.SameExpr(expr("'X'"), expr("'x'")) {
		t.Error("upper case within quotes makes a difference")
	}
	for _, s := range []string{"a in (1, (select 2))", "case when a then b end", "count (*)", "x.y || 'z'"} {
		if e, _, err := Expr(s); err != api.OK || !syntax.Expr(e) {
			t.Errorf("%s is not valid", s)
		}
	}
}
