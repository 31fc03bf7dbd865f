package base

import (
	"fmt"
	"math/rand"
	"slices"
	"strings"
	"testing"

	"tabellion/api"
	"tabellion/aries"
	"tabellion/btree"
	"tabellion/disk"
	"tabellion/heap"
	"tabellion/keycode"
	"tabellion/parse"
	"tabellion/schema"
	"tabellion/space"
	"tabellion/txn"
	"tabellion/undo"
	"tabellion/value"
	"tabellion/version"
)

func engine(t *testing.T, z api.Size) api.Engine {
	t.Helper()
	s, err := aries.Format(z)
	if err != api.OK {
		t.Fatal(err)
	}
	s, who, _ := txn.Begin(s)
	s, root, _ := heap.New(s, who)
	s, err = txn.Commit(s, who)
	if root != directory || err != api.OK {
		t.Fatal(root, err)
	}
	return api.Engine{Store: s, Cat: api.Catalog{Next: 1}, Next: 1}
}

var size = api.Size{Log: 4000, Pages: 80, Frames: 10}

func stmt(t *testing.T, sql string) api.Stmt {
	t.Helper()
	s, at, err := parse.Stmt(sql)
	if err != api.OK {
		t.Fatalf("%s: %d at %d", sql, err, at)
	}
	return s
}

func run(t *testing.T, e api.Engine, l ...string) api.Engine {
	t.Helper()
	for _, sql := range l {
		s := stmt(t, sql)
		var err api.Errno
		if s.Kind == api.SDrop {
			e, err = Drop(e, s)
		} else {
			e, err = Make(e, s)
		}
		if err != api.OK {
			t.Fatal(sql, err)
		}
		checked(t, e)
	}
	return e
}

func checked(t *testing.T, e api.Engine) {
	t.Helper()
	if _, ok := Check(e); !ok {
		t.Fatal("Check")
	}
}

func same(a, b any) bool { return fmt.Sprint(a) == fmt.Sprint(b) }

func row(l ...any) api.Row {
	var r api.Row
	for _, x := range l {
		switch x := x.(type) {
		case nil:
			r = append(r, api.Value{})
		case int:
			r = append(r, value.Num(x))
		case string:
			r = append(r, value.Str(x))
		}
	}
	return r
}

func version1(at, from, to int, data ...any) api.Version {
	return api.Version{Row: at, From: from, To: to, Data: row(data...)}
}

// put stores versions in one committed transaction.
func put(t *testing.T, e api.Engine, table string, l ...api.Version) api.Engine {
	t.Helper()
	var who int
	var err api.Errno
	e.Store, who, _ = txn.Begin(e.Store)
	for _, v := range l {
		if e, err = Put(e, who, table, v); err != api.OK {
			t.Fatal(v, err)
		}
	}
	if e.Store, err = txn.Commit(e.Store, who); err != api.OK {
		t.Fatal(err)
	}
	checked(t, e)
	return e
}

func load(t *testing.T, e api.Engine, table string) []api.Held {
	t.Helper()
	_, l, err := Load(e, table)
	if err != api.OK {
		t.Fatal(err)
	}
	return l
}

func versions(l []api.Held) string {
	var s []string
	for _, h := range l {
		s = append(s, fmt.Sprint(h.V))
	}
	return strings.Join(s, " ")
}

func records(t *testing.T, e api.Engine) []string {
	t.Helper()
	_, _, recs, err := heap.Scan(e.Store, directory)
	if err != api.OK {
		t.Fatal(err)
	}
	return recs
}

func used(t *testing.T, e api.Engine) []int {
	t.Helper()
	_, l, err := space.Used(e.Store)
	if err != api.OK {
		t.Fatal(err)
	}
	return l
}

func TestP53_1(t *testing.T) {
	e := api.Engine{Roots: []api.Root{{Id: 3, Page: 9}, {Id: 4, Page: 8}, {Id: 3, Page: 7}}}
	if p, ok := Root(e, 3); p != 9 || !ok {
		t.Error(p, ok)
	}
	if p, ok := Root(e, 5); p != 0 || ok {
		t.Error(p, ok)
	}
}

func TestP53_2(t *testing.T) {
	e := run(t, engine(t, size), "create table t (a int, unique (a))")
	if got := records(t, e); !slices.Equal(got, []string{"d\x00\x00\x01create table t (a int, unique (a))", "r\x00\x00\x01\x00\x00\x02", "r\x00\x00\x02\x00\x00\x03"}) || !same(e.Roots, []api.Root{{Id: 1, Page: 2}, {Id: 2, Page: 3}}) {
		t.Errorf("%q %v", got, e.Roots)
	}
	c, _ := schema.Create(api.Catalog{Next: 1}, stmt(t, "create table t (a int, unique (a))"))
	if !same(e.Cat, c) || len(e.Store.Txns) != 0 || e.Store.Log.Safe == 0 {
		t.Error(e.Cat)
	}
	e = put(t, e, "t", version1(1, 1, 0, 5), version1(2, 1, 3, 4), version1(2, 3, 0, 6))
	e = run(t, e, "create index i on t (a)")
	if got := records(t, e); got[3] != "d\x00\x00\x03create index i on t (a)" || got[4] != "r\x00\x00\x03\x00\x00\x04" || !same(e.Roots[2], api.Root{Id: 3, Page: 4}) {
		t.Errorf("%q", got)
	}
	_, l, _ := btree.Range(e.Store, 4, "", "")
	if len(l) != 3 || l[0].Key != keycode.Put(row(4)) {
		t.Error(l)
	}
	long := "create table z (a int, b text, check (b <> '" + strings.Repeat("x", 100) + "'), check (b <> '" + strings.Repeat("y", 100) + "'), check (b <> '" + strings.Repeat("z", 100) + "'"
	for _, c := range []struct {
		s   api.Stmt
		err api.Errno
	}{
		{stmt(t, "drop table t"), api.ErrArg}, {stmt(t, "begin"), api.ErrArg}, {api.Stmt{}, api.ErrArg}, {stmt(t, "create table t (a int)"), api.ErrTwice}, {stmt(t, "create table v (a int, unique (b))"), api.ErrName}, {stmt(t, "create index i on t (a)"), api.ErrTwice}, {stmt(t, "create index j on v (a)"), api.ErrName}, {stmt(t, long+"), check (a > 10000000))"), api.ErrLong},
	} {
		if got, err := Make(e, c.s); err != c.err || !same(got, e) {
			t.Error(c.s, err)
		}
	}
	if text := long + "), check (a > 1))"; len(text) > mostText {
		t.Error(len(text))
	} else {
		run(t, e, text)
	}
	// Errors within the transaction: everything is undone, but the pages of roots remain.
	full := engine(t, api.Size{Log: 4000, Pages: 4, Frames: 4})
	got, err := Make(full, stmt(t, "create table t (a int, unique (a), unique (a))"))
	if err != api.ErrFull || len(got.Roots)+len(got.Cat.Tables) != 0 || len(records(t, got)) != 0 || len(got.Store.Txns) != 0 || !same(used(t, got), []int{0, 1, 2, 3}) {
		t.Error(err, used(t, got))
	}
	checked(t, got)
	wide := run(t, engine(t, size), "create table t (a text)")
	wide = put(t, wide, "t", version1(1, 1, 0, strings.Repeat("x", 99)))
	got, err = Make(wide, stmt(t, "create index i on t (a)"))
	if err != api.ErrLong || !same(got.Roots, wide.Roots) || !same(got.Cat, wide.Cat) || !same(records(t, got), records(t, wide)) {
		t.Error(err)
	}
	down := engine(t, size)
	down.Store.Disk = disk.Arm(down.Store.Disk, 3)
	got, err = Make(down, stmt(t, "create table t (a int)"))
	if err != api.ErrDown || !got.Store.Disk.Down || len(got.Roots) != 0 || len(got.Store.Txns) != 1 || got.Cat.Next != 1 {
		t.Error(err, got.Store.Txns)
	}
}

func TestP53_3(t *testing.T) {
	e := run(t, engine(t, size), "create table t (a int, unique (a))", "create table u (a int)", "create index i on t (a)", "create index j on u (a)")
	e = put(t, e, "t", version1(1, 1, 0, 5))
	for sql, want := range map[string]api.Errno{"drop table z": api.ErrName, "drop index z": api.ErrName, "drop index t_1": api.ErrState, "create table z (a int)": api.ErrArg} {
		if got, err := Drop(e, stmt(t, sql)); err != want || !same(got, e) {
			t.Error(sql, err)
		}
	}
	got := run(t, e, "drop index i")
	if len(records(t, got)) != len(records(t, e))-2 || len(got.Roots) != len(e.Roots)-1 || len(used(t, got)) != len(used(t, e))-1 {
		t.Error(got.Roots)
	}
	got = run(t, got, "drop table t")
	if got.Roots[0].Id != 3 || len(got.Roots) != 2 || fmt.Sprintf("%q", records(t, got)) != fmt.Sprintf("%q", []string{"d\x00\x00\x03create table u (a int)", "r\x00\x00\x03\x00\x00\x04", "d\x00\x00\x05create index j on u (a)", "r\x00\x00\x05\x00\x00\x06"}) || !same(used(t, got), []int{0, 1, 4, 6}) {
		t.Errorf("%v %q %v", got.Roots, records(t, got), used(t, got))
	}
	tight := e
	tight.Store.Log.Sectors = e.Store.Log.End/128 + 6
	if again, err := Drop(tight, stmt(t, "drop table t")); err != api.ErrFull || len(again.Roots) != len(e.Roots) {
		t.Error(err)
	}
	armed := e
	armed.Store.Disk = disk.Arm(e.Store.Disk, 2)
	if again, err := Drop(armed, stmt(t, "drop table t")); err != api.ErrDown || !same(again.Roots, e.Roots) || !same(again.Cat, e.Cat) {
		t.Error(err)
	}
}

func TestP53_4(t *testing.T) {
	e := run(t, engine(t, size), "create table t (a int)")
	e = put(t, e, "t", version1(2, 5, 0, 1), version1(1, 7, 0, 2), version1(2, 3, 5, 3), version1(1, 2, 7, 4), version1(2, 3, 4, 5))
	if got := versions(load(t, e, "t")); got != versions([]api.Held{{V: version1(1, 2, 7, 4)}, {V: version1(1, 7, 0, 2)}, {V: version1(2, 3, 5, 3)}, {V: version1(2, 3, 4, 5)}, {V: version1(2, 5, 0, 1)}}) {
		t.Error(got)
	}
	if got, l, err := Load(e, "z"); err != api.ErrName || len(l) != 0 || !same(got, e) {
		t.Error(err)
	}
	var who int
	bad := e
	bad.Store, who, _ = txn.Begin(bad.Store)
	bad.Store, _, _ = heap.Insert(bad.Store, who, 2, "x")
	if got, l, err := Load(bad, "t"); err != api.ErrShort || len(l) != 0 || !same(got, bad) {
		t.Error(err)
	}
	if _, ok := Check(bad); ok {
		t.Error("Check")
	}
	lost := e
	lost.Roots = nil
	if got, l, err := Load(lost, "t"); err != api.ErrArg || len(l) != 0 || !same(got, lost) {
		t.Error(err)
	}
}

func TestP53_5(t *testing.T) {
	e := run(t, engine(t, size), "create table t (a int, b text, unique (a))", "create index i on t (b, a)")
	var who int
	e.Store, who, _ = txn.Begin(e.Store)
	v := version1(1, 1, 0, 5, "x")
	one, err := Put(e, who, "t", v)
	l := load(t, one, "t")
	if err != api.OK || len(l) != 1 || !same(l[0].V, v) {
		t.Error(err, l)
	}
	checked(t, one)
	for i, c := range []struct {
		table string
		v     api.Version
		err   api.Errno
	}{
		{"z", version1(-1, 0, 0), api.ErrName}, {"t", version1(-1, 1, 0, 5), api.ErrArg}, {"t", version1(1, 1, 0, 5), api.ErrCount}, {"t", version1(1, 1, 0, 5, strings.Repeat("x", 90)), api.ErrLong}, {"t", version1(1, 1, 0, 5, "x\n"), api.ErrArg},
	} {
		if got, err := Put(one, who, c.table, c.v); err != c.err || !same(got, one) {
			t.Errorf("%d: %d", i, err)
		}
	}
	if _, err := Put(one, 99, "t", v); err != api.ErrNone {
		t.Error(err)
	}
	closed, err := Close(one, who, l[0], 9)
	if err != api.OK || versions(load(t, closed, "t")) != fmt.Sprint(version1(1, 1, 9, 5, "x")) {
		t.Error(err)
	}
	if got, err := Close(one, who, l[0], -1); err != api.ErrArg || !same(got, one) {
		t.Error(err)
	}
	if got, err := Close(one, who, api.Held{V: l[0].V, Rid: api.Rid{Page: 2, Slot: 7}}, 9); err != api.ErrNone || !same(got, one) {
		t.Error(err)
	}
	gone, err := Erase(one, who, "t", l[0])
	if err != api.OK || len(load(t, gone, "t")) != 0 {
		t.Error(err)
	}
	checked(t, gone)
	if got, err := Erase(gone, who, "t", l[0]); err != api.ErrNone || !same(got, gone) {
		t.Error(err)
	}
	// What was done before an error remains, until the transaction is undone.
	other := l[0]
	other.V.Data = row(6, "x")
	half, err := Erase(one, who, "t", other)
	if _, ok := Check(half); err != api.ErrNone || ok {
		t.Error(err, ok)
	}
	half.Store, err = undo.Back(half.Store, who)
	if err != api.OK || len(load(t, half, "t")) != 0 {
		t.Error(err)
	}
	checked(t, half)
}

func TestP53_6(t *testing.T) {
	e := run(t, engine(t, size), "create table t (a int, b int)", "create index i on t (a, b)")
	var l []api.Version
	n := 0
	for _, a := range []any{nil, 1, 2, 3} {
		for _, b := range []any{nil, 5, 6} {
			n++
			l = append(l, version1(n, 1+n%2, 0, a, b))
		}
	}
	e = put(t, e, "t", l...)
	b := func(open bool, l ...any) api.Bound { return api.Bound{Is: true, Open: open, Key: row(l...)} }
	none := api.Bound{}
	all := "1 2 3 4 5 6 7 8 9 10 11 12"
	for i, c := range []struct {
		lo, hi api.Bound
		snap   int
		want   string
	}{
		{none, none, 9, all}, {none, none, 1, "2 4 6 8 10 12"}, {none, none, 0, ""}, {b(false, 2), b(false, 2), 9, "7 8 9"}, {b(true, 2), none, 9, "10 11 12"}, {none, b(true, 2), 9, "1 2 3 4 5 6"}, {none, b(false, 1), 9, "1 2 3 4 5 6"}, {b(false, nil), b(false, nil), 9, "1 2 3"},
		{b(false, 2, 5), b(false, 3), 9, "8 9 10 11 12"}, {b(true, 2, 5), b(true, 3, 6), 9, "9 10 11"}, {b(false), b(false), 9, all}, {b(true), none, 9, ""}, {none, b(true), 9, ""}, {b(false, 2, 5, 1), none, 9, "9 10 11 12"}, {none, b(false, 2, 5, 1), 9, "1 2 3 4 5 6 7 8"}, {b(false, 3), b(false, 2), 9, ""},
		{b(false, api.MaxNum+1), none, 9, ""}, {none, b(false, "x\n"), 9, ""}, {api.Bound{Key: row("x\n")}, none, 9, all}, {b(false, "a"), none, 9, ""}, {none, b(false, "a"), 9, all},
	} {
		_, got, err := Seek(e, "i", c.lo, c.hi, c.snap)
		var rows []string
		for _, h := range got {
			rows = append(rows, fmt.Sprint(h.V.Row))
		}
		if strings.Join(rows, " ") != c.want || err != api.OK {
			t.Errorf("%d: %v %d, want %s", i, rows, err, c.want)
		}
	}
	if got, l, err := Seek(e, "z", b(false, "x\n"), none, 9); err != api.ErrName || len(l) != 0 || !same(got, e) {
		t.Error(err)
	}
	lost := e
	lost.Roots = nil
	if got, l, err := Seek(lost, "i", none, none, 9); err != api.ErrArg || len(l) != 0 || !same(got, lost) {
		t.Error(err)
	}
}

func TestP53_7(t *testing.T) {
	e := run(t, engine(t, size), "create table t (a int, b int)", "create index i on t (a)")
	e = put(t, e, "t", version1(1, 1, 0, 5, 6), version1(2, 1, 0, 7, 8))
	var who int
	e.Store, who, _ = txn.Begin(e.Store)
	heapRoot, treeRoot := e.Roots[0].Page, e.Roots[1].Page
	_, entries, _ := btree.Range(e.Store, treeRoot, "", "")
	for i, spoil := range []func(*api.Engine){
		func(e *api.Engine) { e.Cat.Next = 0 },
		func(e *api.Engine) { e.Roots = e.Roots[:1] },
		func(e *api.Engine) { e.Roots = e.Roots[1:] },
		func(e *api.Engine) { e.Roots = []api.Root{{Id: 1, Page: treeRoot}, {Id: 2, Page: treeRoot}} },
		func(e *api.Engine) { e.Store, _ = btree.Cut(e.Store, who, treeRoot, entries[0]) },
		func(e *api.Engine) { e.Store, _ = btree.Put(e.Store, who, treeRoot, api.Entry{Key: "z"}) },
		func(e *api.Engine) { e.Store, _ = heap.Cut(e.Store, who, entries[0].Rid) },
		func(e *api.Engine) { e.Store, _, _ = heap.Insert(e.Store, who, heapRoot, "x") },
		func(e *api.Engine) {
			rec, _ := version.Put(version1(9, 1, 0, 1, 2))
			e.Store, _, _ = heap.Insert(e.Store, who, heapRoot, rec)
		},
		func(e *api.Engine) {
			rec, _ := version.Put(version1(1, 1, 0, 99, 6))
			e.Store, _ = heap.Set(e.Store, who, entries[0].Rid, rec)
		},
		func(e *api.Engine) { e.Store.Size.Pages = 3 },
	} {
		bad := e
		spoil(&bad)
		if _, ok := Check(bad); ok {
			t.Errorf("%d is not noticed", i)
		}
	}
	same := e
	rec, _ := version.Put(version1(1, 1, 0, 5, 77))
	same.Store, _ = heap.Set(same.Store, who, entries[0].Rid, rec)
	if _, ok := Check(same); !ok {
		t.Error("a column without an index")
	}
}

func TestP53_8(t *testing.T) {
	r := rand.New(rand.NewSource(53))
	e := run(t, engine(t, api.Size{Log: 12000, Pages: 200, Frames: 12}), "create table t (a int, b text, unique (b))")
	before := used(t, e)
	e = run(t, e, "create table u (a int, b text, unique (a, b))", "create index i on u (b)")
	var l []api.Version
	for i := range 40 {
		l = append(l, version1(i, 1, 0, r.Intn(9), strings.Repeat("x", r.Intn(60))))
	}
	e = put(t, e, "u", l...)
	e = run(t, e, "drop index i", "create index i on u (b, a)", "drop table u")
	if !slices.Equal(used(t, e), before) {
		t.Error("pages are left in use", used(t, e))
	}
	for range 12 {
		model := e
		state := versions(load(t, e, "t"))
		var who int
		e.Store, who, _ = txn.Begin(e.Store)
		for range 1 + r.Intn(8) {
			held := load(t, e, "t")
			var err api.Errno
			switch k := r.Intn(3); {
			case k == 0 && len(held) > 0:
				e, err = Erase(e, who, "t", held[r.Intn(len(held))])
			case k == 1 && len(held) > 0:
				e, err = Close(e, who, held[r.Intn(len(held))], 5)
			default:
				e, err = Put(e, who, "t", version1(r.Intn(50), r.Intn(4), 0, r.Intn(5), strings.Repeat("y", r.Intn(90))))
			}
			if err != api.OK {
				t.Fatal(err)
			}
			checked(t, e)
		}
		var err api.Errno
		if r.Intn(2) == 0 {
			e.Store, err = undo.Back(e.Store, who)
			if versions(load(t, e, "t")) != state || !same(e.Roots, model.Roots) {
				t.Fatal("undoing restores the previous state")
			}
		} else {
			e.Store, err = txn.Commit(e.Store, who)
		}
		if err != api.OK {
			t.Fatal(err)
		}
		checked(t, e)
	}
}
