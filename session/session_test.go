package session

import (
	"fmt"
	"math/rand"
	"reflect"
	"strings"
	"testing"

	"tabellion/api"
	"tabellion/base"
	"tabellion/bind"
	"tabellion/ckpt"
	"tabellion/commit"
	"tabellion/disk"
	"tabellion/engine"
	"tabellion/naive"
	"tabellion/overlay"
	"tabellion/parse"
	"tabellion/value"
	"tabellion/version"
)

// world is an engine with four sessions.
type world struct {
	t *testing.T
	e api.Engine
	s [4]api.Session
}

func newWorld(t *testing.T, l ...string) *world {
	t.Helper()
	e, err := engine.New(api.Size{Log: 8000, Pages: 150, Frames: 12})
	if err != api.OK {
		t.Fatal(err)
	}
	w := &world{t: t, e: e}
	for _, sql := range l {
		w.say(0, sql, "ok")
	}
	return w
}

// show writes a reply: an error, or a number of rows, or rows.
func show(r api.Reply) string {
	switch {
	case r.E != api.OK:
		return fmt.Sprint("error ", r.E)
	case r.Kind == api.SQuery:
		var l []string
		for _, row := range r.Rows {
			var s []string
			for _, v := range row {
				s = append(s, value.Text(v))
			}
			l = append(l, strings.Join(s, ","))
		}
		return strings.Join(l, " ")
	case r.Kind == api.SInsert || r.Kind == api.SUpdate || r.Kind == api.SDelete || r.Kind == api.SVacuum:
		return fmt.Sprint(r.N)
	case r.Kind == api.SExplain:
		return strings.Join(r.Text, "\n")
	}
	return "ok"
}

// say lets a session execute a statement.
func (w *world) say(who int, sql, want string) {
	w.t.Helper()
	e, s, r := Text(w.e, w.s[who], sql)
	if got := show(r); got != want {
		w.t.Errorf("%d: %s: %s, want %s", who, sql, got, want)
	}
	if _, ok := engine.Check(e); !ok {
		w.t.Fatalf("after %s: Check", sql)
	}
	w.e, w.s[who] = e, s
}

func same(a, b any) bool { return fmt.Sprint(a) == fmt.Sprint(b) }

func TestP57_1(t *testing.T) {
	if !reflect.DeepEqual(New(), api.Session{}) {
		t.Error("New")
	}
}

func TestP57_2Queries(t *testing.T) {
	w := newWorld(t, "create table t (a int, b text)", "create table u (x int)")
	w.say(0, "insert into t values (1, 'x'), (null, 'y')", "2")
	_, _, r := Text(w.e, w.s[0], "select a, b as c from t order by a desc")
	want := api.Reply{Kind: api.SQuery, N: 2, Cols: []api.Col{{Name: "a", Type: api.VInt}, {Name: "c", Type: api.VText}}, Rows: []api.Row{{value.Num(1), value.Str("x")}, {{}, value.Str("y")}}}
	if !reflect.DeepEqual(r, want) {
		t.Errorf("%v", r)
	}
	w.say(0, "explain select a from t where a < 3", "sort est 0 cost 0 rows 1\n  project [t.a] est 0 cost 0 rows 1\n    scan t [(t.a < 3)] est 0 cost 0 rows 1")
	w.say(0, "analyze", "ok")
	w.say(0, "explain select a from t where a < 3", "sort est 1 cost 14 rows 1\n  project [t.a] est 1 cost 13 rows 1\n    scan t [(t.a < 3)] est 1 cost 12 rows 1")
	if _, _, r := Text(w.e, w.s[0], "explain select 1"); r.Kind != api.SExplain || len(r.Cols)+len(r.Rows)+r.N != 0 || len(r.Text) != 3 {
		t.Error(r)
	}
	w.say(0, "select z from t", "error 6")
	w.say(0, "explain select z from t", "error 6")
	w.say(0, "select * from t where b", "error 9")
	if e, s, r := Run(w.e, w.s[0], api.Stmt{}); !reflect.DeepEqual(r, api.Reply{E: api.ErrArg}) || !same(e, w.e) || s.In {
		t.Error(r)
	}
	lost := w.e
	lost.Roots = nil
	for _, sql := range []string{"select 1", "explain select 1", "analyze", "vacuum", "insert into t values (1, 'x')", "update t set a = 1", "delete from t", "create index i on t (a)"} {
		if _, _, r := Text(lost, New(), sql); r.E != api.ErrArg || r.Kind == 0 || r.N != 0 {
			t.Error(sql, r)
		}
	}
}

func TestP57_2Writes(t *testing.T) {
	w := newWorld(t, "create table t (a int not null, b text, c int, unique (a), check (c < 50))", "create table u (x int)")
	// insert
	w.say(0, "insert into z values (1)", "error 6")
	w.say(0, "insert into t (a, z, a) values (1, 2, 3)", "error 6")
	w.say(0, "insert into t (a, a, z) values (1, 2, 3)", "error 7")
	w.say(0, "insert into t values (1, 'x')", "error 11")
	w.say(0, "insert into t values (1, 'x', 3), (1)", "error 11")
	w.say(0, "insert into t values (1, b, 3), (1)", "error 6")
	w.say(0, "insert into t values (1), (1, b, 3)", "error 11")
	w.say(0, "insert into t (a, b) values (1, count(*))", "error 10")
	w.say(0, "insert into t values ('x', 'x', 3)", "error 9")
	w.say(0, "insert into t (b) values ('x')", "error 12")
	w.say(0, "insert into t (a, c) values (1, 50)", "error 15")
	w.say(0, "insert into t (c, a) values (7, 1), (8, 2)", "2")
	w.say(0, "insert into t values (2, 'x', 3)", "error 13")
	w.say(0, "insert into t select 1", "error 11")
	w.say(0, "insert into t select z from t", "error 6")
	w.say(0, "insert into t select a + 10, b, c from t", "2")
	w.say(0, "insert into t (a, c) select a + 100, null from t where c = 7", "2")
	w.say(0, "insert into t (a) values ((select max(a) from t) + 1), ((select count(*) from t))", "2")
	w.say(0, "select a, b, c from t order by a", "1,null,7 2,null,8 6,null,null 11,null,7 12,null,8 101,null,null 111,null,null 112,null,null")
	w.say(0, "insert into u select a from t where a > 500", "0")
	w.say(0, "insert into t (a) values (1 / 0)", "error 12")
	// update
	w.say(0, "update z set a = 1", "error 6")
	w.say(0, "update t set z = 1, a = 1, a = 1", "error 6")
	w.say(0, "update t set a = 1, a = 1, z = q", "error 7")
	w.say(0, "update t set a = q, b = count(*)", "error 6")
	w.say(0, "update t set a = 1 where count(*) = 1", "error 10")
	w.say(0, "update t set a = 1 where a", "error 9")
	w.say(0, "update t set a = 1 where u.a = 1", "error 6")
	w.say(0, "update t set b = a", "error 9")
	w.say(0, "update t set a = null where a = 1", "error 12")
	w.say(0, "update t set a = a + 1 where a > 100", "3")
	w.say(0, "update t set c = a, a = c where t.c = 7 and t.a = 11", "1")
	w.say(0, "update t set a = 5 where null", "0")
	w.say(0, "update t set b = 'z', c = (select count(*) from t) where a in (select min(a) from t)", "1")
	w.say(0, "select a, b, c from t where a < 12 order by a", "1,'z',8 2,null,8 6,null,null 7,null,11")
	w.say(0, "update t set c = 50 where a = 1", "error 15")
	w.say(0, "update t set a = 2 where a = 1", "error 13")
	// delete
	w.say(0, "delete from z", "error 6")
	w.say(0, "delete from t where q", "error 6")
	w.say(0, "delete from t where a", "error 9")
	w.say(0, "delete from t where a > 100", "3")
	w.say(0, "delete from t where a = (select max(a) from t)", "1")
	w.say(0, "select a from t order by a", "1 2 6 7")
	w.say(0, "delete from t", "4")
	w.say(0, "select count(*) from t", "0")
}

func TestP57_2Transactions(t *testing.T) {
	w := newWorld(t, "create table t (a int)")
	w.say(0, "commit", "error 17")
	w.say(0, "rollback", "error 17")
	w.say(0, "insert into t values (1), (null)", "2")
	w.say(0, "begin", "ok")
	w.say(0, "begin", "error 17")
	if !w.s[0].In || w.s[0].Snap != w.e.Last {
		t.Error(w.s[0])
	}
	w.say(0, "update t set a = 2 where a = 1", "1")
	w.say(0, "select a from t", "null 2")
	for _, sql := range []string{"create table z (a int)", "create index i on t (a)", "drop table t", "drop table z", "analyze", "vacuum", "checkpoint"} {
		w.say(0, sql, "error 17")
	}
	w.say(1, "select a from t", "null 1")
	w.say(0, "rollback", "ok")
	w.say(0, "select a from t", "null 1")
	if w.s[0].In || len(w.s[0].Writes) != 0 {
		t.Error(w.s[0])
	}
	// Writes of rows that the transaction inserted itself.
	w.say(0, "begin", "ok")
	w.say(0, "insert into t values (7), (8)", "2")
	w.say(0, "insert into t values (9)", "1")
	if l := w.s[0].Writes; len(l) != 3 || l[0].Row != -1 || l[1].Row != -2 || l[2].Row != -3 {
		t.Error(l)
	}
	w.say(0, "update t set a = a * 10 where a > 7", "2")
	w.say(0, "delete from t where a = 80", "1")
	w.say(0, "insert into t values (10)", "1")
	w.say(0, "select a from t", "null 1 7 10 90")
	w.say(0, "delete from t where a is null", "1")
	w.say(0, "update t set a = 'x'", "error 9")
	w.say(0, "select a from t", "1 7 10 90")
	w.say(1, "select a from t", "null 1")
	w.say(0, "commit", "ok")
	w.say(1, "select a from t", "1 7 10 90")
	// The first committer wins.
	w.say(0, "begin", "ok")
	w.say(1, "begin", "ok")
	w.say(0, "update t set a = 2 where a = 1", "1")
	w.say(1, "update t set a = 3 where a = 1", "1")
	w.say(1, "commit", "ok")
	w.say(0, "select a from t", "2 7 10 90")
	w.say(2, "select a from t", "3 7 10 90")
	w.say(0, "commit", "error 16")
	if w.s[0].In {
		t.Error("the transaction ends in either case")
	}
	w.say(0, "select a from t", "3 7 10 90")
	// A constraint that fails at commit.
	w.say(0, "create table k (a int, unique (a))", "ok")
	w.say(0, "begin", "ok")
	w.say(0, "insert into k values (1), (1)", "2")
	w.say(0, "commit", "error 13")
	w.say(0, "select count(*) from k", "0")
	// A table that was made anew: what does not fit it is not seen, and not committed.
	w.say(0, "begin", "ok")
	w.say(0, "insert into k values (1)", "1")
	w.say(1, "drop table k", "ok")
	w.say(0, "select * from k", "error 6")
	w.say(1, "create table k (b text)", "ok")
	w.say(0, "select * from k", "")
	w.say(0, "update k set b = 'z'", "0")
	w.say(0, "commit", "error 16")
	w.say(0, "begin", "ok")
	w.say(0, "commit", "ok")
}

func TestP57_2Management(t *testing.T) {
	w := newWorld(t, "create table t (a int, b text)")
	w.say(0, "create table t (a int)", "error 7")
	w.say(0, "create table z (a int, check (a))", "error 9")
	w.say(0, "create table z (a int, check (exists (select 1)))", "error 1")
	w.say(0, "create table z (a int, check (b = 1))", "error 6")
	w.say(0, "create table z (a int, foreign key (a) references t (a))", "error 21")
	w.say(0, "insert into t values (1, 'x'), (1, 'y')", "2")
	w.say(0, "create unique index i on t (a)", "error 13")
	w.say(0, "create unique index i on t (b, a)", "ok")
	w.say(0, "create index i on t (a)", "error 7")
	w.say(0, "insert into t values (1, 'x')", "error 13")
	w.say(0, "drop index z", "error 6")
	w.say(0, "drop index i", "ok")
	w.say(0, "insert into t values (1, 'x')", "1")
	w.say(0, "update t set a = 5", "3")
	w.say(0, "vacuum", "3")
	w.say(0, "vacuum", "0")
	w.say(0, "begin", "ok")
	w.say(1, "delete from t where b = 'x'", "2")
	w.say(1, "vacuum", "2")
	w.say(0, "select b from t", "'y'")
	w.say(0, "rollback", "ok")
	lsn := w.e.Store.Log.End + 1
	w.say(0, "checkpoint", "ok")
	if ckpt.Master(w.e.Store.Disk) != lsn {
		t.Error(ckpt.Master(w.e.Store.Disk), lsn)
	}
	w.say(0, "analyze", "ok")
	if len(w.e.Stats) != 1 || w.e.Stats[0].Rows != 1 {
		t.Error(w.e.Stats)
	}
	w.say(0, "drop table t", "ok")
	w.say(0, "select 1 from t", "error 6")
	long := "create table z (a int" + strings.Repeat(", check (a <> 1 or a <> 2 or a <> 3 or a <> 4)", 9) + ")"
	w.say(0, long, fmt.Sprint("error ", int(api.ErrLong)))
	// A loss of power.
	w.say(0, "create table t (a int)", "ok")
	w.e.Store.Disk = disk.Arm(w.e.Store.Disk, 2)
	e, s, r := Text(w.e, New(), "insert into t values (1)")
	if !reflect.DeepEqual(r, api.Reply{Kind: api.SInsert, E: api.ErrDown}) || !e.Store.Disk.Down || s.In {
		t.Error(r)
	}
	e, s, _ = Text(w.e, New(), "begin")
	e, s, _ = Text(e, s, "insert into t values (1)")
	e, s, r = Text(e, s, "commit")
	if r.E != api.ErrDown || s.In || !e.Store.Disk.Down {
		t.Error(r, s)
	}
}

func TestP57_3(t *testing.T) {
	w := newWorld(t)
	for sql, want := range map[string]api.Reply{
		"select": {E: api.ErrShort, N: 6}, "": {E: api.ErrShort}, "select 'x": {E: api.ErrShort, N: 7}, "begin;": {E: api.ErrForm, N: 5}, " select 1 limit 0 2": {E: api.ErrForm, N: 18}, "select " + strings.Repeat("- ", 40) + "1": {E: api.ErrLong},
	} {
		if e, s, r := Text(w.e, New(), sql); !reflect.DeepEqual(r, want) || s.In || !same(e, w.e) {
			t.Errorf("%q: %v", sql, r)
		}
	}
	w.say(0, "select 1", "1")
}

func TestP57_4(t *testing.T) {
	r := rand.New(rand.NewSource(57))
	one := func(l ...string) string { return l[r.Intn(len(l))] }
	for range 4 {
		w := newWorld(t, "create table t (a int, b text, unique (a))", "create table u (x int, foreign key (x) references t (a))", "create index i on u (x)")
		for range 60 {
			n := fmt.Sprint(r.Intn(6))
			sql := one("insert into t values ("+n+", 'x')", "insert into u values ("+n+")", "update t set b = b || 'y' where a = "+n, "update t set a = a + 1 where a > "+n, "delete from t where a = "+n, "delete from u where x = "+n, "update u set x = "+n+" where x is null", "insert into u values (null)",
				"begin", "commit", "rollback", "vacuum", "analyze", "checkpoint", "insert into t select a + 10, b from t where a < "+n)
			if sql == "vacuum" && (w.s[0].In || w.s[1].In || w.s[2].In) {
				continue // it would remove what others still see
			}
			who := r.Intn(3)
			before := [3]string{}
			for i := range before {
				before[i] = w.sees(i)
			}
			e, s, reply := Text(w.e, w.s[who], sql)
			if _, ok := engine.Check(e); !ok {
				t.Fatalf("after %s: Check", sql)
			}
			ended := sql == "commit" || sql == "rollback"
			old := w.s[who]
			w.e, w.s[who] = e, s
			for i := range before {
				changed := w.sees(i) != before[i]
				mine := i == who && (reply.E == api.OK || ended)
				if changed && !mine && w.s[i].In {
					t.Fatalf("%s changes what session %d sees in its transaction", sql, i)
				}
				if changed && reply.E != api.OK && !(ended && i == who && old.In) {
					t.Fatalf("%s is rejected and changes what session %d sees", sql, i)
				}
			}
			w.checkQuery(who, one("select * from t order by 1", "select t.a, u.x from t left join u on t.a = u.x order by 1, 2", "select b, count(*) from t group by b order by 1", "select x from u where x in (select a from t where a > "+n+")"))
		}
	}
}

// sees returns all that a session sees.
func (w *world) sees(who int) string {
	_, _, a := Text(w.e, w.s[who], "select * from t order by 1, 2")
	_, _, b := Text(w.e, w.s[who], "select * from u order by 1")
	return show(a) + "; " + show(b)
}

// checkQuery compares a query's rows with naive's.
func (w *world) checkQuery(who int, sql string) {
	w.t.Helper()
	s := w.s[who]
	snap := w.e.Last
	if s.In {
		snap = s.Snap
	}
	var db []api.Data
	for _, table := range w.e.Cat.Tables {
		_, l, _ := base.Load(w.e, table.Name)
		db = append(db, overlay.Data(version.Pick(l, snap), s.Writes, table.Name))
	}
	q, _, _ := parse.Query(sql)
	rel, err := bind.Top(w.e.Cat, q)
	if err != api.OK {
		w.t.Fatal(sql, err)
	}
	want := naive.Top(rel, db)
	_, _, r := Text(w.e, s, sql)
	if !same(r.Rows, want) || r.E != api.OK || r.N != len(want) {
		w.t.Fatalf("%s: %v, want %v", sql, r.Rows, want)
	}
	if _, _, err := commit.Data(w.e, snap); err != api.OK {
		w.t.Fatal(err)
	}
}
