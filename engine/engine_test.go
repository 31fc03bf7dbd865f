package engine

import (
	"fmt"
	"math/rand"
	"strings"
	"testing"

	"tabellion/api"
	"tabellion/base"
	"tabellion/bind"
	"tabellion/commit"
	"tabellion/disk"
	"tabellion/heap"
	"tabellion/naive"
	"tabellion/overlay"
	"tabellion/parse"
	"tabellion/planner"
	"tabellion/space"
	"tabellion/stat"
	"tabellion/txn"
	"tabellion/value"
	"tabellion/version"
)

var size = api.Size{Log: 6000, Pages: 120, Frames: 10}

func made(t *testing.T, z api.Size, l ...string) api.Engine {
	t.Helper()
	e, err := New(z)
	if err != api.OK {
		t.Fatal(err)
	}
	for _, sql := range l {
		e = run(t, e, sql)
	}
	return e
}

func run(t *testing.T, e api.Engine, sql string) api.Engine {
	t.Helper()
	x, _, err := parse.Stmt(sql)
	if err == api.OK && x.Kind == api.SDrop {
		e, err = base.Drop(e, x)
	} else if err == api.OK {
		e, err = base.Make(e, x)
	}
	if err != api.OK {
		t.Fatal(sql, err)
	}
	return e
}

func row(l ...any) api.Row {
	var r api.Row
	for _, x := range l {
		switch x := x.(type) {
		case nil:
			r = append(r, api.Value{})
		case int:
			r = append(r, value.Num(x))
		case string:
			r = append(r, value.Str(x))
		}
	}
	return r
}

func write(table string, kind, at int, data ...any) api.Write {
	return api.Write{Table: table, Kind: kind, Row: at, Data: row(data...)}
}

func do(t *testing.T, e api.Engine, w ...api.Write) api.Engine {
	t.Helper()
	e, err := commit.Do(e, e.Last, w)
	if err != api.OK {
		t.Fatal(w, err)
	}
	if _, ok := Check(e); !ok {
		t.Fatal("Check")
	}
	return e
}

func top(t *testing.T, e api.Engine, sql string) api.Rel {
	t.Helper()
	q, _, err := parse.Query(sql)
	if err != api.OK {
		t.Fatal(sql, err)
	}
	r, err := bind.Top(e.Cat, q)
	if err != api.OK {
		t.Fatal(sql, err)
	}
	return r
}

func ask(t *testing.T, e api.Engine, snap int, w []api.Write, sql string) string {
	t.Helper()
	_, rows, _, _, err := Ask(e, snap, w, top(t, e, sql))
	if err != api.OK {
		t.Fatal(sql, err)
	}
	return text(rows)
}

func text(rows []api.Row) string {
	var l []string
	for _, r := range rows {
		var s []string
		for _, v := range r {
			s = append(s, value.Text(v))
		}
		l = append(l, strings.Join(s, ","))
	}
	return strings.Join(l, " ")
}

func same(a, b any) bool { return fmt.Sprint(a) == fmt.Sprint(b) }

func TestP56_1(t *testing.T) {
	e := made(t, size)
	_, used, _ := space.Used(e.Store)
	if e.Last != 0 || e.Next != 1 || e.Cat.Next != 1 || len(e.Cat.Tables)+len(e.Roots)+len(e.Stats)+len(e.Store.Txns) != 0 || !same(used, []int{0, 1}) {
		t.Error(e.Last, e.Next, used)
	}
	if _, rids, _, err := heap.Scan(e.Store, 1); len(rids) != 0 || err != api.OK {
		t.Error(err)
	}
	for z, want := range map[api.Size]api.Errno{{}: api.ErrArg, {Log: 100, Pages: 1, Frames: 4}: api.ErrArg, {Log: 3, Pages: 4, Frames: 4}: api.ErrFull, {Log: 14, Pages: 4, Frames: 4}: api.ErrFull} {
		if e, err := New(z); err != want || !same(e, api.Engine{}) {
			t.Error(z, err)
		}
	}
	if _, err := New(api.Size{Log: 100, Pages: 2, Frames: 4}); err != api.OK {
		t.Error(err)
	}
}

func TestP56_2(t *testing.T) {
	e := made(t, size, "create table t (a int)")
	e = do(t, e, write("t", api.WInsert, -1, 1), write("t", api.WInsert, -2, 2), write("t", api.WInsert, -3, nil))
	got, err := Open(e.Store.Disk, size)
	if err != api.OK || ask(t, got, got.Last, nil, "select count(*) from t") != "3" {
		t.Error(err)
	}
	e = run(t, e, "create table u (x int, unique (x), foreign key (x) references u (x))")
	e = run(t, e, "create unique index i on t (a)")
	e = do(t, e, write("t", api.WUpdate, 1, 7), write("u", api.WInsert, -1, 5))
	e = do(t, e, write("t", api.WDelete, 2))
	e = run(t, e, "drop table t")
	e = run(t, e, "create table t (b text)")
	e = do(t, e, write("t", api.WInsert, -1, "z"))
	e, _ = Analyze(e)
	got, err = Open(e.Store.Disk, size)
	if err != api.OK || !same(got.Cat, e.Cat) || got.Last != e.Last || got.Next != e.Next || len(got.Stats) != 0 || len(got.Roots) != len(e.Roots) {
		t.Error(err, got.Last, e.Last, got.Next, e.Next, got.Cat, e.Cat)
	}
	for _, r := range e.Roots {
		if page, ok := base.Root(got, r.Id); !ok || page != r.Page {
			t.Error(r, page)
		}
	}
	if _, ok := Check(got); !ok {
		t.Error("Check")
	}
	empty, err := Open(run(t, e, "drop table u").Store.Disk, size)
	if err != api.OK || len(empty.Cat.Tables) != 1 {
		t.Error(err)
	}
	// Errors.
	if got, err := Open(api.Disk{}, size); err != api.ErrArg || !same(got, api.Engine{}) {
		t.Error(err)
	}
	if got, err := Open(disk.Arm(e.Store.Disk, 0), size); err != api.ErrDown || !got.Store.Disk.Down || !same(got, api.Engine{Store: got.Store}) {
		t.Error(err)
	}
	for _, rec := range []string{"x", "d\x00\x00\x01", "d\x00\x00\x01begin", "d\x00\x00\x01create table t (b text)", "d\x00\x00\x50drop table u", "d\x00\x00\x50create index j on z (b)", "r\x00\x00\x01\x00\x00", "r\x00\x00\x01\x00\x00\x01x", "d\x00\x00"} {
		bad := e
		var who int
		bad.Store, who, _ = txn.Begin(bad.Store)
		bad.Store, _, _ = heap.Insert(bad.Store, who, 1, rec)
		bad.Store, _ = txn.Commit(bad.Store, who)
		if got, err := Open(bad.Store.Disk, size); err != api.ErrForm || !same(got, api.Engine{Store: got.Store}) || len(got.Store.Disk.Sectors) == 0 {
			t.Errorf("%q: %d", rec, err)
		}
	}
	bad := e
	var who int
	bad.Store, who, _ = txn.Begin(bad.Store)
	page, _ := base.Root(bad, bad.Cat.Tables[1].Id)
	bad.Store, _, _ = heap.Insert(bad.Store, who, page, "x")
	bad.Store, _ = txn.Commit(bad.Store, who)
	if got, err := Open(bad.Store.Disk, size); err != api.ErrShort || !same(got, api.Engine{Store: got.Store}) {
		t.Error(err)
	}
	s, _ := New(size)
	raw := s.Store
	raw, who, _ = txn.Begin(raw)
	raw, _ = space.Free(raw, who, 1)
	raw, _ = txn.Commit(raw, who)
	if got, err := Open(raw.Disk, size); err != api.ErrArg || !same(got, api.Engine{Store: got.Store}) {
		t.Error(err)
	}
}

func TestP56_3(t *testing.T) {
	e := made(t, size, "create table t (a int, b text)", "create index i on t (a)")
	e = do(t, e, write("t", api.WInsert, -1, 1, "a"), write("t", api.WInsert, -2, 2, "b"), write("t", api.WInsert, -3, 3, "c"))
	e = do(t, e, write("t", api.WUpdate, 2, 5, "B"))
	w := []api.Write{write("t", api.WUpdate, 1, 5, "own"), write("t", api.WInsert, -1, 4, "new"), write("t", api.WDelete, 3), write("t", api.WInsert, -2, 9), write("u", api.WInsert, -3, 1)}
	for i, c := range []struct {
		snap int
		w    []api.Write
		sql  string
		want string
	}{
		{2, nil, "select * from t order by 1", "1,'a' 3,'c' 5,'B'"}, {1, nil, "select * from t order by 1", "1,'a' 2,'b' 3,'c'"}, {0, nil, "select * from t", ""}, {2, w, "select * from t order by 1, 2", "4,'new' 5,'B' 5,'own'"}, {1, w, "select * from t order by 1, 2", "2,'b' 4,'new' 5,'own'"},
		{2, w, "select b from t where a = 5 order by 1", "'B' 'own'"}, {2, w, "select b from t where a = 1", ""}, {2, nil, "select b from t where a = 1", "'a'"}, {2, w, "select b from t where a > 3 and a < 5", "'new'"}, {0, w[1:2], "select count(*) from t where a >= 4", "1"},
	} {
		stats := e
		var rows []api.Row
		for i := range 100 {
			rows = append(rows, row(i, "x"))
		}
		stats.Stats = []api.Stat{stat.Of("t", rows, 2, 40)} // makes the index worth while
		for k, x := range []api.Engine{e, stats} {
			got, rows, p, counts, err := Ask(x, c.snap, c.w, top(t, x, c.sql))
			if text(rows) != c.want || err != api.OK || len(counts) == 0 || counts[0] != len(rows) || !same(p, planner.Plan(x.Cat, x.Stats, top(t, x, c.sql))) {
				t.Errorf("%d: %s %d, want %s", i, text(rows), err, c.want)
			}
			if k == 1 && strings.Contains(c.sql, "where a =") && !strings.Contains(fmt.Sprint(p), " i ") {
				t.Errorf("%d: no index in %v", i, p)
			}
			if got.Last != x.Last || got.Store.Log != x.Store.Log {
				t.Error("Ask changes the engine")
			}
		}
	}
	lost := e
	lost.Roots = nil
	if got, rows, p, counts, err := Ask(lost, 2, nil, top(t, e, "select 1")); err != api.ErrArg || len(rows)+len(counts) != 0 || p.Op != 0 || !same(got, lost) {
		t.Error(err)
	}
	noTree := e
	noTree.Roots = e.Roots[:1]
	noTree.Stats = []api.Stat{{Table: "t", Rows: 1000, Pages: 1000}}
	if got, rows, p, _, err := Ask(noTree, 2, nil, top(t, e, "select * from t where a = 1")); err != api.ErrArg || len(rows) != 0 || p.Op != 0 || !same(got, noTree) {
		t.Error(err)
	}
}

func TestP56_4(t *testing.T) {
	e := made(t, size, "create table t (a int)", "create table u (x text, y int)")
	e = do(t, e, write("t", api.WInsert, -1, 1), write("t", api.WInsert, -2, 2), write("t", api.WInsert, -3, 2), write("u", api.WInsert, -4, "a", nil))
	e = do(t, e, write("t", api.WUpdate, 1, 2), write("t", api.WDelete, 2))
	got, err := Analyze(e)
	want := []api.Stat{stat.Of("t", []api.Row{row(2), row(2)}, 1, 2), stat.Of("u", []api.Row{row("a", nil)}, 2, 1)}
	if err != api.OK || !same(got.Stats, want) || got.Last != e.Last {
		t.Errorf("%v", got.Stats)
	}
	if again, err := Analyze(run(t, got, "drop table t")); err != api.OK || len(again.Stats) != 1 {
		t.Error(err)
	}
	lost := e
	lost.Roots = nil
	if got, err := Analyze(lost); err != api.ErrArg || !same(got, lost) {
		t.Error(err)
	}
}

func TestP56_5(t *testing.T) {
	e := made(t, size, "create table t (a int, check (a > 0))")
	e = do(t, e, write("t", api.WInsert, -1, 1))
	if _, ok := Check(e); !ok {
		t.Error("Check")
	}
	var who int
	bad := e
	bad.Store, who, _ = txn.Begin(bad.Store)
	bad, _ = base.Put(bad, who, "t", api.Version{Row: 9, From: 1, Data: row(0)})
	if _, ok := base.Check(bad); !ok {
		t.Error("base.Check")
	}
	if _, ok := Check(bad); ok {
		t.Error("a constraint that does not hold")
	}
	bad.Last = 0
	if _, ok := Check(bad); !ok {
		t.Error("only what Last sees counts")
	}
	lost := e
	lost.Roots = nil
	if _, ok := Check(lost); ok {
		t.Error("a table that is lost")
	}
}

var queries = []string{
	"select * from t", "select a, b from t where a = 2", "select b, a from t where a > 1 and a <= 4 order by b desc, a", "select * from t, u where t.a = u.x", "select t.a, u.y from t left join u on t.a = u.x and u.y > 1 order by 1, 2", "select b, count(*), sum(a) from t group by b order by 1",
	"select x from u where exists (select 1 from t where t.a = u.x) order by 1 limit 3", "select a from t except select x from u", "select distinct y from u where x in (select a from t)", "select max(a) from t where b = 'x' having count(*) > 1", "select a from t where b like 'x%' order by a limit 2 offset 1",
}

func TestP56_6(t *testing.T) {
	r := rand.New(rand.NewSource(56))
	for range 8 {
		e := made(t, size, "create table t (a int, b text)", "create table u (x int, y int)", "create index i on t (a, b)", "create index j on u (x)", "create index k on t (b)")
		number := func() any {
			if r.Intn(5) == 0 {
				return nil
			}
			return r.Intn(6)
		}
		random := func(kind int, l []api.Held, table string, n int) api.Write {
			at := -n
			if kind != api.WInsert {
				if len(l) == 0 {
					return api.Write{}
				}
				at = l[r.Intn(len(l))].V.Row
			}
			if table == "t" {
				return write(table, kind, at, number(), []any{nil, "x", "xy", "y"}[r.Intn(4)])
			}
			return write(table, kind, at, number(), number())
		}
		writes := func(e api.Engine, n int) []api.Write {
			var w []api.Write
			for i := range n {
				table := []string{"t", "u"}[r.Intn(2)]
				_, l, _ := base.Load(e, table)
				if next, err := overlay.Add(w, random(1+r.Intn(3), version.Pick(l, e.Last), table, i+1)); err == api.OK {
					w = next
				}
			}
			return w
		}
		for range 10 {
			if next, err := commit.Do(e, e.Last, writes(e, 6)); err == api.OK {
				e = next
			}
			if r.Intn(3) == 0 {
				e, _ = Analyze(e)
			}
		}
		for range 4 {
			snap, w := r.Intn(e.Last+1), writes(e, r.Intn(6))
			var db []api.Data
			for _, name := range []string{"t", "u"} {
				_, l, _ := base.Load(e, name)
				db = append(db, overlay.Data(version.Pick(l, snap), w, name))
			}
			for _, sql := range queries {
				rel := top(t, e, sql)
				want := text(naive.Top(rel, db))
				if got := ask(t, e, snap, w, sql); got != want {
					t.Fatalf("%s: %s, want %s", sql, got, want)
				}
				plain := e
				plain.Stats = nil
				if got := ask(t, plain, snap, w, sql); got != want {
					t.Fatalf("%s without statistics: %s, want %s", sql, got, want)
				}
			}
		}
		// What was not committed is not there.
		var who int
		lost := e
		lost.Store, who, _ = txn.Begin(lost.Store)
		lost, _ = base.Put(lost, who, "t", api.Version{Row: 99, From: 1, Data: row(1, "lost")})
		got, err := Open(disk.Start(lost.Store.Disk), size)
		if err != api.OK {
			t.Fatal(err)
		}
		for _, sql := range queries[:4] {
			if a, b := ask(t, e, e.Last, nil, sql), ask(t, got, got.Last, nil, sql); a != b {
				t.Fatalf("%s: %s, after Open %s", sql, a, b)
			}
		}
	}
}
