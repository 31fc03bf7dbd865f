package print

import (
	"math/rand"
	"strings"
	"testing"

	"tabellion/api"
	"tabellion/parse"
	"tabellion/syntax"
	"tabellion/value"
)

// canonical texts: parsed and printed again, they are the same.
const canonical = `not (a or b) and c
- 5
(a + b) * c
count (distinct a)
count (*)
a + b - c - (d - e)
a * b / c % d * (e * f)
a * (b + c)
- (a + b)
- - a
- a * b
a || b || (c || d) || e + f
a or b or (c or d)
a and b and (c and d)
not not a
not (a and b)
(not a) = b
a = b
(a = b) = (c = d)
a <> b or a < b or a <= b or a > b or a >= b
a || b = c + d
a is null
(a is null) is null
(a = b) is null
not a is null
a like b || '%'
(a like b) like c
a between b and c and d
a between (b and c) and d
a in (1)
a in (1, b or c, (select d))
a in ((select b))
a in ((select b) + 1)
a in (select b)
a in (select b union select c)
a in ((select b limit 1) union select c)
(a in (1)) in (2)
not a in (1)
case when a then b end
case when a or b then c when d then e else f end
case when case when a then b end then c end + 1
f ()
f (a, b or c)
"left" (a)
t.a
t."select"
"from"."where"
"in"
count
sum (a) + max (distinct b) + min (- c)
(select a)
exists (select a)
not exists (select a)
(select a) + (select b)
true or false or null
'it''s' || '' || '(' || '.' || ','
1000000000000000
0`

const canonicalQueries = `select 1
select distinct a, b as c, *, t.*, "in".*, a + b as "select"
select a from t
select a from t as u
select a from "order" as "by"
select a from t cross join u
select a from t join u on a = b
select a from t left join u on a or b
select a from t join u on a left join v on b cross join w
select a from t join (u join v on a) on b
select a from t cross join (u cross join v)
select a from (select 1) as x
select a from (select 1 limit 1) as x
select a from (select 1) as x join t on a
select a where b group by c, d + 1 having e order by f desc, 2, "limit" desc limit 0 offset 7
select a limit 3
select a offset 1
select a union select b
select a union all select b union select c
select a union (select b union select c)
select a except select b union all select c
select a intersect select b union select c
select a union select b intersect all select c
(select a union select b) intersect select c
select a intersect (select b except select c)
select a intersect select b intersect select c
select a intersect (select b intersect select c)
(select a limit 1) union select b
select a union (select b order by 1)
select a union (select b offset 2)
select a union select b order by 1 limit 2
(select a offset 3) intersect all (select b limit 0)`

const canonicalStmts = `select 1
create table t (a int not null, primary key (a))
create table "table" (a int, b text not null, c bool, unique (a, b), primary key (c), foreign key (a, b) references u (c, d), check (a > 1 or b = ''), check (c))
create index i on t (a)
create unique index "index" on t (a, b)
drop table t
drop index i
insert into t values (1)
insert into t (a, b) values (1, 2 or 3), ((select 1))
insert into t select 1
insert into t (a) (select 1 limit 1) union select 2
insert into t (select 1 limit 1) union select 2
update t set a = 1
update t set a = 1, b = a = b where c
delete from t
delete from t where a
explain select 1
begin
commit
rollback
analyze
vacuum
checkpoint`

// TestP11_2to4 covers P11.2, P11.3 and P11.4.
func TestP11_2to4(t *testing.T) {
	for _, s := range strings.Split(canonical, "\n") {
		e, at, err := parse.Expr(s)
		if err != api.OK {
			t.Errorf("%s: %d at %d", s, err, at)
		}
		if got, err := Expr(e); got != s || err != api.OK {
			t.Errorf("%s: %s %d", s, got, err)
		}
	}
	for _, s := range strings.Split(canonicalQueries, "\n") {
		q, at, err := parse.Query(s)
		if err != api.OK {
			t.Errorf("%s: %d at %d", s, err, at)
		}
		if got, err := Query(q); got != s || err != api.OK {
			t.Errorf("%s: %s %d", s, got, err)
		}
	}
	for _, s := range strings.Split(canonicalStmts, "\n") {
		x, at, err := parse.Stmt(s)
		if err != api.OK {
			t.Errorf("%s: %d at %d", s, err, at)
		}
		if got, err := Stmt(x); got != s || err != api.OK {
			t.Errorf("%s: %s %d", s, got, err)
		}
	}
}

func TestP11_1(t *testing.T) {
	if s, err := Expr(api.Expr{}); s != "" || err != api.ErrArg {
		t.Error(s, err)
	}
	if s, err := Query(api.Query{Limit: -1}); s != "" || err != api.ErrArg {
		t.Error(s, err)
	}
	if s, err := Stmt(api.Stmt{}); s != "" || err != api.ErrArg {
		t.Error(s, err)
	}
	if s, err := Expr(api.Expr{Op: api.EConst, V: value.Num(-1)}); s != "" || err != api.ErrArg {
		t.Error(s, err)
	}
	text := func(n int) api.Expr { return api.Expr{Op: api.EConst, V: value.Str(strings.Repeat("x", n))} }
	long := api.Expr{Op: api.EFunc, Name: "f"} // f (..): 4 bytes, each text 2 more than its own, and 2 between two of them
	for range 19 {
		long.Kids = append(long.Kids, text(100))
	}
	long.Kids = append(long.Kids, text(2000-4-19*104-2))
	if s, err := Expr(long); len(s) != 2000 || err != api.OK {
		t.Error(len(s), err)
	}
	long.Kids[19] = text(2000 - 4 - 19*104 - 1)
	if s, err := Expr(long); s != "" || err != api.ErrLong {
		t.Error(len(s), err)
	}
}

// maker makes random valid trees.
type maker struct{ r *rand.Rand }

func (m maker) one(n int) bool { return m.r.Intn(n) == 0 }

func (m maker) name() string {
	return []string{"a", "b", "t", "u", "select", "count", "x_1", "in", "abcdefghijklmnopqrst"}[m.r.Intn(9)]
}

func (m maker) maybe() string {
	if m.one(2) {
		return ""
	}
	return m.name()
}

func (m maker) names() []string {
	l := make([]string, 1+m.r.Intn(2))
	for i := range l {
		l[i] = m.name()
	}
	return l
}

func (m maker) exprs(n, deep int) []api.Expr {
	l := make([]api.Expr, n)
	for i := range l {
		l[i] = m.expr(deep)
	}
	return l
}

func (m maker) perhaps(deep int) []api.Expr { return m.exprs(m.r.Intn(2), deep) }

func (m maker) expr(deep int) api.Expr {
	op := 1 + m.r.Intn(28)
	if deep <= 0 {
		op = 1 + m.r.Intn(2)
	}
	e := api.Expr{Op: op}
	switch op {
	case api.EConst:
		e.V = []api.Value{{}, value.Bool(true), value.Bool(false), value.Num(m.r.Intn(3)), value.Num(api.MaxNum), value.Str(""), value.Str("it's ( x")}[m.r.Intn(7)]
	case api.ECol:
		e.Table, e.Name = m.maybe(), m.name()
	case api.ENeg, api.ENot, api.EIsNull:
		e.Kids = m.exprs(1, deep-1)
	case api.EBetween:
		e.Kids = m.exprs(3, deep-1)
	case api.EIn, api.ECase:
		e.Kids = m.exprs(2+m.r.Intn(3), deep-1)
	case api.EFunc:
		e.Name, e.Kids = []string{"f", "select", "lower"}[m.r.Intn(3)], m.exprs(m.r.Intn(3), deep-1)
	case api.EAgg:
		e.Name = []string{"count", "sum", "min", "max"}[m.r.Intn(4)]
		if e.Name != "count" || m.one(2) {
			e.Kids, e.Distinct = m.exprs(1, deep-1), m.one(2)
		}
	case api.EScalar, api.EExists:
		e.Sub = []api.Query{m.query(deep - 1)}
	case api.EInSub:
		e.Kids, e.Sub = m.exprs(1, deep-1), []api.Query{m.query(deep - 1)}
	default:
		e.Kids = m.exprs(2, deep-1)
	}
	return e
}

func (m maker) query(deep int) api.Query {
	q := api.Query{Op: api.QSelect, Limit: -1}
	if deep > 0 && m.one(2) {
		q.Op = api.QUnion + m.r.Intn(3)
		q.All = m.one(2)
		q.Kids = []api.Query{m.query(deep - 1), m.query(deep - 1)}
	} else {
		q.Distinct = m.one(2)
		for range 1 + m.r.Intn(2) {
			if m.one(3) {
				q.Items = append(q.Items, api.Item{Star: true, Table: m.maybe()})
			} else {
				q.Items = append(q.Items, api.Item{E: m.expr(deep - 1), As: m.maybe()})
			}
		}
		if m.one(2) {
			q.From = []api.From{m.from(deep - 1)}
		}
		q.Where, q.Group, q.Having = m.perhaps(deep-1), m.perhaps(deep-1), m.perhaps(deep-1)
	}
	if m.one(4) {
		q.Order = []api.Order{{Name: m.name(), Down: m.one(2)}, {At: 1 + m.r.Intn(3), Down: m.one(2)}}
	}
	if m.one(4) {
		q.Limit = m.r.Intn(3)
	}
	if m.one(4) {
		q.Skip = m.r.Intn(3)
	}
	return q
}

func (m maker) from(deep int) api.From {
	kind := api.FTable
	if deep > 0 {
		kind = 1 + m.r.Intn(5)
	}
	f := api.From{Kind: kind}
	switch kind {
	case api.FTable:
		f.Name, f.As = m.name(), m.maybe()
	case api.FQuery:
		f.Sub, f.As = []api.Query{m.query(deep - 1)}, m.name()
	default:
		f.Kids = []api.From{m.from(deep - 1), m.from(deep - 1)}
		if kind != api.FCross {
			f.On = m.exprs(1, deep-1)
		}
	}
	return f
}

func (m maker) stmt(deep int) api.Stmt {
	s := api.Stmt{Kind: 1 + m.r.Intn(14)}
	switch s.Kind {
	case api.SCreate:
		s.Table = m.name()
		for range 1 + m.r.Intn(3) {
			s.Cols = append(s.Cols, api.ColDef{Name: m.name(), Type: 1 + m.r.Intn(3), NotNull: m.one(2)})
			if m.one(2) {
				s.Keys = append(s.Keys, api.KeyDef{Primary: m.one(2), Names: m.names()})
			}
			if m.one(2) {
				s.Refs = append(s.Refs, api.RefDef{Names: m.names(), Table: m.name(), To: m.names()})
			}
		}
		s.Checks = m.perhaps(deep)
	case api.SIndex:
		s.Name, s.Table, s.Names, s.Unique = m.name(), m.name(), m.names(), m.one(2)
	case api.SDrop:
		if m.one(2) {
			s.Name = m.name()
		} else {
			s.Table = m.name()
		}
	case api.SInsert:
		s.Table = m.name()
		if m.one(2) {
			s.Names = m.names()
		}
		if m.one(2) {
			s.Q = []api.Query{m.query(deep)}
		} else {
			s.Rows = [][]api.Expr{m.exprs(1+m.r.Intn(2), deep), m.exprs(1, deep)}
		}
	case api.SUpdate:
		s.Table, s.Sets, s.Where = m.name(), []api.Assign{{Name: m.name(), E: m.expr(deep)}}, m.perhaps(deep)
	case api.SDelete:
		s.Table, s.Where = m.name(), m.perhaps(deep)
	case api.SQuery, api.SExplain:
		s.Q = []api.Query{m.query(deep)}
	}
	return s
}

func TestP11_5(t *testing.T) {
	m := maker{rand.New(rand.NewSource(11))}
	seen := map[string]api.Stmt{}
	printed := 0
	for range 20000 {
		s := m.stmt(1 + m.r.Intn(4))
		text, err := Stmt(s)
		if !syntax.Stmt(s) {
			if err != api.ErrArg {
				t.Fatalf("%d for an invalid statement", err)
			}
			continue
		}
		if err != api.OK {
			continue
		}
		printed++
		back, at, err := parse.Stmt(text)
		if err != api.OK || !syntax.SameStmt(back, s) {
			t.Fatalf("%s: %d at %d", text, err, at)
		}
		if old, ok := seen[text]; ok && !syntax.SameStmt(old, s) {
			t.Fatalf("%s is the text of two statements", text)
		}
		seen[text] = s
	}
	if printed < 10000 {
		t.Error("only", printed, "statements were printed")
	}
	for range 5000 {
		e, q := m.expr(3), m.query(2)
		if text, err := Expr(e); err == api.OK {
			if back, _, err := parse.Expr(text); err != api.OK || !syntax.SameExpr(back, e) {
				t.Fatal(text)
			}
		}
		if text, err := Query(q); err == api.OK {
			if back, _, err := parse.Query(text); err != api.OK || !syntax.SameQuery(back, q) {
				t.Fatal(text)
			}
		}
	}
}
