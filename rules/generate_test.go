package rules

import (
	"math"
	"math/rand"
	"reflect"
	"strings"
	"sync"

	"tabellion/api"
	"tabellion/aries"
	"tabellion/base"
	"tabellion/btree"
	"tabellion/heap"
	"tabellion/parse"
	"tabellion/pool"
	"tabellion/schema"
	"tabellion/txn"
)

var numbers = []int{
	0, 1, 2, 3, 4, 5, 6, 7, 8, 12, 19, 24, 40, 63, 64, 65, 100, 127, 128, 255, 256, 400, 401, 511, 512, 513, 2000, 2001,
	65535, 65536, 1 << 23, 1 << 24, 1 << 31, 1 << 40, 1 << 48, 1<<62 - 1, api.MaxNum, api.MaxNum + 1, api.MaxCost + 1,
	api.Million, math.MaxInt, math.MinInt, math.MinInt + 1, -1, -2, -3, -api.MaxNum, -api.MaxNum - 1,
}

var texts = []string{
	"", "a", "b", "c", "t", "u", "t_1", "count", "sum", "min", "max", "length", "lower", "upper", "abs", "coalesce",
	"nullif", "select", "from", "a%", "_b\\", "\\%", "it's", "\xff", "\x00", "a\xff\xff", "\n", " ", "0", "-1", "12", "007",
	"select a from t", "select * from t where a = 1", "create table t (a int, b text, unique (a))", "insert into t values (1, 'x')",
	"update t set a = 2 where b is null", "delete from t", "a + 1 * b", "not a = 1 or b is not null", "select", "((((", "begin",
	"commit", "'x", "0: begin\n", "power 5\nopen\nflush 3\ncheckpoint\n", "7: x\n", "aaaaaaaaaaaaaaaaaaaaa",
	"x is null and y in (1, 2) or exists (select 1)",
}

func text(r *rand.Rand) string {
	switch r.Intn(12) {
	case 0:
		return strings.Repeat(texts[r.Intn(len(texts))], r.Intn(60))
	case 1:
		b := make([]byte, r.Intn(40))
		for i := range b {
			b[i] = byte(r.Intn(256))
		}
		return string(b)
	case 2:
		return pageText(r)
	case 3:
		return texts[r.Intn(len(texts))] + " " + texts[r.Intn(len(texts))]
	}
	return texts[r.Intn(len(texts))]
}

func number(r *rand.Rand) int {
	if r.Intn(3) == 0 {
		return numbers[r.Intn(len(numbers))]
	}
	return r.Intn(14) - 1
}

// generate makes an arbitrary value; deep limits how far lists go on within lists.
func generate(r *rand.Rand, t reflect.Type, deep int) reflect.Value {
	if v, ok := special(r, t, deep); ok {
		return v
	}
	out := reflect.New(t).Elem()
	switch t.Kind() {
	case reflect.Int:
		out.SetInt(int64(number(r)))
	case reflect.Bool:
		out.SetBool(r.Intn(2) == 0)
	case reflect.String:
		out.SetString(text(r))
	case reflect.Slice:
		n := size(r, deep)
		if n > 0 {
			out.Set(reflect.MakeSlice(t, n, n))
		}
		for i := 0; i < n; i++ {
			out.Index(i).Set(generate(r, t.Elem(), deep-1))
		}
	case reflect.Array:
		for i := 0; i < t.Len(); i++ {
			out.Index(i).Set(generate(r, t.Elem(), deep))
		}
	case reflect.Struct:
		for i := 0; i < t.NumField(); i++ {
			out.Field(i).Set(generate(r, t.Field(i).Type, deep))
		}
	}
	return out
}

func size(r *rand.Rand, deep int) int {
	if deep <= 0 || r.Intn(4) == 0 {
		return 0
	}
	if r.Intn(30) == 0 && deep > 2 {
		return r.Intn(20)
	}
	return r.Intn(4)
}

// special makes values of types that are hardly ever valid if they are made at random, most of them valid.
func special(r *rand.Rand, t reflect.Type, deep int) (reflect.Value, bool) {
	if r.Intn(6) == 0 {
		return reflect.Value{}, false
	}
	var v any
	switch t {
	case reflect.TypeOf(api.Value{}):
		v = someValue(r)
	case reflect.TypeOf(api.Catalog{}):
		v = someCatalog(r)
	case reflect.TypeOf(api.Stmt{}):
		v = someStmt(r)
	case reflect.TypeOf(api.Store{}):
		v = someStore(r, deep)
	case reflect.TypeOf(api.Engine{}):
		v = someEngine(r, deep)
	case reflect.TypeOf(api.Query{}):
		v = someQuery(r)
	default:
		return reflect.Value{}, false
	}
	return reflect.ValueOf(v), true
}

func someValue(r *rand.Rand) api.Value {
	switch r.Intn(4) {
	case 0:
		return api.Value{}
	case 1:
		return api.Value{Kind: api.VBool, N: r.Intn(2)}
	case 2:
		return api.Value{Kind: api.VInt, N: number(r)}
	}
	return api.Value{Kind: api.VText, S: text(r)}
}

func pick(r *rand.Rand, l []string) string { return l[r.Intn(len(l))] }

var statements = []string{
	"create table t (a int, b text)", "create table t (a int not null, primary key (a))", "create index i on t (a)",
	"create table u (a int, b text, c bool, unique (a, b), unique (b), foreign key (a) references t (a), check (a > 1))",
	"create unique index j on u (b, a)", "create table v (x int, y text, foreign key (x, y) references u (a, b))",
	"drop table t", "drop table u", "drop index i", "drop index t_1", "create table w (a int, foreign key (a) references w (a), unique (a))",
	"insert into t values (1), (null)", "insert into u (b, a) select 'x', 1", "update t set a = a + 1 where a < 5", "delete from u where b like 'a%'",
	"begin", "commit", "rollback", "analyze", "vacuum", "checkpoint", "explain select * from t, u where t.a = u.a",
}

var queries = []string{
	"select 1", "select a from t where a = 1", "select * from t join u on t.a = u.a where u.b like 'x%' and t.a < 3", "select count(*), a from t group by a having count(*) > 1 order by a",
	"select a from t union select a from u", "select * from t left join u on t.a = u.a order by 1 desc limit 3", "select a from t where exists (select 1 from u where u.a = t.a)",
	"select a from t where a in (select a from u) or (select max(a) from u) = a", "select distinct x.a + 1 from (select a from t except all select a from u) as x",
	"select case when a > 1 then 'a' else b end from u", "select sum(distinct a), min(b) from u", "select * from t, u, v, w where t.a = u.a and u.b = v.y",
}

func someStmt(r *rand.Rand) api.Stmt {
	s, _, _ := parse.Stmt(pick(r, statements))
	if r.Intn(4) == 0 {
		s = api.Stmt{Kind: api.SQuery, Q: []api.Query{someQuery(r)}}
	}
	return s
}

func someQuery(r *rand.Rand) api.Query {
	q, _, _ := parse.Query(pick(r, queries))
	return q
}

// someCatalog makes a valid catalog, or one that is nearly valid.
func someCatalog(r *rand.Rand) api.Catalog {
	c := api.Catalog{Next: 1}
	for range r.Intn(8) {
		s, _, _ := parse.Stmt(statements[r.Intn(11)])
		switch s.Kind {
		case api.SCreate:
			c, _ = schema.Create(c, s)
		case api.SIndex:
			c, _ = schema.Index(c, s)
		}
	}
	if r.Intn(8) == 0 && len(c.Tables) > 0 {
		c.Tables[0].Cols = nil
	}
	return c
}

// stores makes a few valid stores: a heap with root 1 and a tree with root 2, transaction 2 running.
var stores = sync.OnceValue(func() []api.Store {
	var l []api.Store
	s, err := aries.Format(api.Size{Log: 90, Pages: 8, Frames: 4})
	for _, step := range []func(){
		func() { s, _, err = txn.Begin(s) },
		func() { s, _, err = heap.New(s, 2) },
		func() { s, _, err = btree.New(s, 2) },
		func() { s, _, err = heap.Insert(s, 2, 1, "abc") },
		func() { s, err = btree.Put(s, 2, 2, api.Entry{Key: "a"}) },
		func() { s, err = pool.All(s) },
		func() { s, _, err = heap.Insert(s, 2, 1, "b") },
	} {
		if step(); err != api.OK {
			panic(err)
		}
		l = append(l, s)
	}
	return l
})

// someStore makes a valid store, or one with an arbitrary field.
func someStore(r *rand.Rand, deep int) api.Store {
	l := stores()
	s := deepCopy(reflect.ValueOf(l[r.Intn(len(l))])).Interface().(api.Store)
	if r.Intn(2) == 0 {
		return s
	}
	spoil(r, reflect.ValueOf(&s).Elem(), deep)
	return s
}

// engines makes a few valid engines with a table t and an index i.
var engines = sync.OnceValue(func() []api.Engine {
	var l []api.Engine
	e := api.Engine{Store: stores()[1], Cat: api.Catalog{Next: 1}, Next: 3, Last: 1}
	var err api.Errno
	e.Store, err = txn.Commit(e.Store, 2)
	for _, step := range []func(){
		func() { e, err = base.Make(e, firstStmt(statements[0])) },
		func() { e, err = base.Make(e, firstStmt(statements[2])) },
		func() { e.Store, _, err = txn.Begin(e.Store) },
		func() {
			e, err = base.Put(e, e.Store.Txns[0].Txn, "t", api.Version{Row: 1, From: 1, Data: api.Row{{Kind: api.VInt, N: 5}, {}}})
		},
		func() {
			e, err = base.Put(e, e.Store.Txns[0].Txn, "t", api.Version{Row: 2, From: 1, Data: api.Row{{}, {Kind: api.VText, S: "x"}}})
		},
	} {
		if step(); err != api.OK {
			panic(err)
		}
		l = append(l, e)
	}
	e.Store, _ = txn.Commit(e.Store, e.Store.Txns[0].Txn)
	return append(l, e, e, e)
})

func firstStmt(sql string) api.Stmt {
	s, _, _ := parse.Stmt(sql)
	return s
}

// someEngine makes a valid engine, or one with an arbitrary field.
func someEngine(r *rand.Rand, deep int) api.Engine {
	l := engines()
	e := deepCopy(reflect.ValueOf(l[r.Intn(len(l))])).Interface().(api.Engine)
	if r.Intn(2) == 0 {
		return e
	}
	spoil(r, reflect.ValueOf(&e).Elem(), deep)
	return e
}

// spoil makes a field arbitrary, however deep.
func spoil(r *rand.Rand, v reflect.Value, deep int) {
	switch {
	case v.Kind() == reflect.Struct && r.Intn(8) > 0:
		spoil(r, v.Field(r.Intn(v.NumField())), deep)
	case v.Kind() == reflect.Slice && v.Len() > 0 && r.Intn(8) > 0:
		spoil(r, v.Index(r.Intn(v.Len())), deep)
	default:
		v.Set(generate(r, v.Type(), min(deep, 2)))
	}
}

// pageText makes something that resembles a page.
func pageText(r *rand.Rand) string {
	b := make([]byte, api.PageSize)
	b[10] = byte(r.Intn(6))
	b[17] = 2
	if r.Intn(2) == 0 {
		n := 1 + r.Intn(20)
		b[16], b[17], b[18] = 1, byte((512-n)>>8), byte(512-n)
		b[19], b[20], b[21], b[22] = b[17], b[18], 0, byte(n)
		for i := 512 - n; i < 512; i++ {
			b[i] = byte(r.Intn(4))
		}
	}
	if r.Intn(8) == 0 {
		b[r.Intn(len(b))] = byte(r.Intn(256))
	}
	return string(b)
}
