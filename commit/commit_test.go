package commit

import (
	"fmt"
	"math/rand"
	"strings"
	"testing"

	"tabellion/api"
	"tabellion/aries"
	"tabellion/base"
	"tabellion/disk"
	"tabellion/heap"
	"tabellion/overlay"
	"tabellion/parse"
	"tabellion/txn"
	"tabellion/value"
)

func engine(t *testing.T, z api.Size, l ...string) api.Engine {
	t.Helper()
	s, err := aries.Format(z)
	if err != api.OK {
		t.Fatal(err)
	}
	s, who, _ := txn.Begin(s)
	s, _, _ = heap.New(s, who)
	s, _ = txn.Commit(s, who)
	e := api.Engine{Store: s, Cat: api.Catalog{Next: 1}, Next: 1}
	for _, sql := range l {
		x, _, err := parse.Stmt(sql)
		if err == api.OK {
			e, err = base.Make(e, x)
		}
		if err != api.OK {
			t.Fatal(sql, err)
		}
	}
	return e
}

var size = api.Size{Log: 4000, Pages: 60, Frames: 10}

func row(l ...any) api.Row {
	var r api.Row
	for _, x := range l {
		switch x := x.(type) {
		case nil:
			r = append(r, api.Value{})
		case int:
			r = append(r, value.Num(x))
		case string:
			r = append(r, value.Str(x))
		}
	}
	return r
}

func write(table string, kind, at int, data ...any) api.Write {
	return api.Write{Table: table, Kind: kind, Row: at, Data: row(data...)}
}

func do(t *testing.T, e api.Engine, w ...api.Write) api.Engine {
	t.Helper()
	e, err := Do(e, e.Last, w)
	if err != api.OK {
		t.Fatal(w, err)
	}
	if _, ok := base.Check(e); !ok {
		t.Fatal("Check")
	}
	return e
}

func data(t *testing.T, e api.Engine, snap int) string {
	t.Helper()
	_, db, err := Data(e, snap)
	if err != api.OK {
		t.Fatal(err)
	}
	var l []string
	for _, d := range db {
		s := d.Table
		for _, r := range d.Rows {
			s += " "
			for i, v := range r {
				if i > 0 {
					s += ","
				}
				s += value.Text(v)
			}
		}
		l = append(l, s)
	}
	return strings.Join(l, "; ")
}

func same(a, b any) bool { return fmt.Sprint(a) == fmt.Sprint(b) }

func TestP54_1(t *testing.T) {
	held := func(at, from, to int) api.Held { return api.Held{V: api.Version{Row: at, From: from, To: to}} }
	l := []api.Held{held(1, 2, 0), held(2, 1, 4), held(2, 4, 0), held(3, 1, 3), held(4, 1, 6), held(5, 7, 0)}
	for i, c := range []struct {
		snap int
		w    api.Write
		want bool
	}{
		{2, write("t", api.WUpdate, 1), false}, {1, write("t", api.WUpdate, 1), true}, {2, write("t", api.WDelete, 1), false}, {3, write("t", api.WUpdate, 2), true}, {4, write("t", api.WUpdate, 2), false}, {9, write("t", api.WDelete, 3), true}, {9, write("t", api.WDelete, 77), true}, {9, write("t", api.WUpdate, 4), true},
		{6, write("t", api.WUpdate, 5), true}, {7, write("t", api.WUpdate, 5), false}, {0, write("t", api.WInsert, -1), false}, {0, write("t", api.WInsert, 77), false}, {0, write("u", api.WUpdate, 1), false}, {9, write("t", 0, 77), true}, {9, write("t", 9, 1), false},
	} {
		if got := Clash(l, c.snap, []api.Write{write("u", api.WDelete, 9), c.w}, "t"); got != c.want {
			t.Errorf("%d: %v", i, got)
		}
	}
	if Clash(l, 0, nil, "t") || Clash(nil, 0, []api.Write{write("t", api.WInsert, -1)}, "t") || !Clash(nil, 0, []api.Write{write("t", api.WDelete, 1)}, "t") {
		t.Error("nothing")
	}
}

func TestP54_2(t *testing.T) {
	e := engine(t, size, "create table t (a int)", "create table u (b text)")
	e = do(t, e, write("t", api.WInsert, -1, 5), write("u", api.WInsert, -1, "x"), write("t", api.WInsert, -2, nil))
	e = do(t, e, write("t", api.WUpdate, 1, 6), write("u", api.WDelete, 2))
	for snap, want := range map[int]string{0: "t; u", 1: "t 5 null; u 'x'", 2: "t 6 null; u", 99: "t 6 null; u", -1: "t; u"} {
		if got := data(t, e, snap); got != want {
			t.Errorf("%d: %s", snap, got)
		}
	}
	lost := e
	lost.Roots = e.Roots[:1]
	if got, db, err := Data(lost, 1); err != api.ErrArg || len(db) != 0 || !same(got, lost) {
		t.Error(err)
	}
}

func TestP54_3(t *testing.T) {
	e := engine(t, size, "create table t (a int, b text, unique (a), check (a < 100))", "create table u (x int, foreign key (x) references t (a))")
	if got, err := Do(e, 0, nil); err != api.OK || !same(got, e) {
		t.Error(err)
	}
	one := do(t, e, write("t", api.WInsert, -1, 1, "a"), write("u", api.WInsert, -2, 1), write("t", api.WInsert, -3, 2, "b"))
	if one.Last != 1 || one.Next != 4 || data(t, one, 1) != "t 1,'a' 2,'b'; u 1" {
		t.Error(one.Last, one.Next, data(t, one, 1))
	}
	_, l, _ := base.Load(one, "t")
	if !same(l[0].V, api.Version{Row: 1, From: 1, Data: row(1, "a")}) || !same(l[1].V, api.Version{Row: 3, From: 1, Data: row(2, "b")}) {
		t.Error(l)
	}
	two := do(t, one, write("t", api.WUpdate, 3, 3, "c"), write("t", api.WInsert, -1, 2, "d"))
	_, l, _ = base.Load(two, "t")
	if two.Last != 2 || two.Next != 5 || !same(l[1].V, api.Version{Row: 3, From: 1, To: 2, Data: row(2, "b")}) || !same(l[2].V, api.Version{Row: 3, From: 2, Data: row(3, "c")}) || !same(l[3].V, api.Version{Row: 4, From: 2, Data: row(2, "d")}) {
		t.Error(l)
	}
	for i, c := range []struct {
		snap int
		w    []api.Write
		err  api.Errno
	}{
		{2, []api.Write{write("z", api.WInsert, -1, 1)}, api.ErrName}, {2, []api.Write{write("t", api.WInsert, -1, 1), write("z", api.WInsert, -1)}, api.ErrConflict}, {2, []api.Write{write("z", api.WInsert, -1), write("t", api.WInsert, -1, 1)}, api.ErrName}, {2, []api.Write{write("t", api.WInsert, -1, "a", 1)}, api.ErrConflict},
		{1, []api.Write{write("t", api.WUpdate, 3, 9, "z")}, api.ErrConflict}, {1, []api.Write{write("t", api.WDelete, 3)}, api.ErrConflict}, {1, []api.Write{write("t", api.WUpdate, 1, 9, "z")}, api.ErrRef}, {2, []api.Write{write("t", api.WUpdate, 77, 9, "z")}, api.ErrConflict}, {2, []api.Write{write("t", api.WUpdate, 3, 9)}, api.ErrConflict},
		{2, []api.Write{write("t", api.WInsert, -1, 1, "z")}, api.ErrKey}, {2, []api.Write{write("t", api.WInsert, -1, 100, "z")}, api.ErrCheck}, {2, []api.Write{write("u", api.WInsert, -1, 50)}, api.ErrRef}, {2, []api.Write{write("t", api.WDelete, 1)}, api.ErrRef}, {2, []api.Write{write("t", api.WDelete, 1), write("u", api.WDelete, 2)}, 0},
		{2, []api.Write{write("t", api.WUpdate, 1, 3, "z"), write("t", api.WUpdate, 3, 1, "z")}, 0}, {1, []api.Write{write("t", api.WInsert, -1, 40, "z"), write("t", api.WUpdate, 1, 1, "z")}, 0},
	} {
		got, err := Do(two, c.snap, c.w)
		if err != c.err {
			t.Errorf("%d: %d, want %d", i, err, c.err)
		}
		if _, ok := base.Check(got); !ok {
			t.Errorf("%d: Check", i)
		}
		if err != api.OK && (got.Last != 2 || got.Next != 5 || data(t, got, 2) != data(t, two, 2) || data(t, got, 3) != data(t, two, 3) || len(got.Store.Txns) != 0) {
			t.Errorf("%d: something has changed", i)
		}
	}
	wide := engine(t, size, "create table t (a text, unique (a))")
	if got, err := Do(wide, 0, []api.Write{write("t", api.WInsert, -1, "ok"), write("t", api.WInsert, -2, strings.Repeat("x", 99))}); err != api.ErrLong || data(t, got, 9) != "t" || got.Next != 1 {
		t.Error(err)
	}
	tight := two
	tight.Store.Log.Sectors = two.Store.Log.End/128 + 2
	if got, err := Do(tight, 2, []api.Write{write("t", api.WUpdate, 3, 9, "z")}); err != api.ErrFull || got.Last != 2 {
		t.Error(err)
	}
	armed := two
	armed.Store.Disk = disk.Arm(two.Store.Disk, 1)
	if got, err := Do(armed, 2, []api.Write{write("t", api.WUpdate, 3, 9, "z")}); err != api.ErrDown || !got.Store.Disk.Down || got.Last != 2 || len(got.Store.Txns) != 1 {
		t.Error(err)
	}
}

func TestP54_4(t *testing.T) {
	r := rand.New(rand.NewSource(54))
	for range 6 {
		e := engine(t, api.Size{Log: 9000, Pages: 120, Frames: 12}, "create table t (a int, unique (a))", "create table u (x int, foreign key (x) references t (a))")
		seen := []string{data(t, e, 0)}
		for range 25 {
			var w []api.Write
			_, base1, _ := base.Load(e, "t")
			_, base2, _ := base.Load(e, "u")
			for range 1 + r.Intn(4) {
				table, l := "t", base1
				if r.Intn(2) == 0 {
					table, l = "u", base2
				}
				at := -1 - r.Intn(3)
				if len(l) > 0 && r.Intn(3) > 0 {
					at = l[r.Intn(len(l))].V.Row
				}
				number := any(r.Intn(20))
				if table == "u" && len(base1) > 0 {
					number = base1[r.Intn(len(base1))].V.Data[0].N
				} else if table == "u" {
					number = nil
				}
				var next []api.Write
				var err api.Errno
				switch {
				case at < 0:
					next, err = overlay.Add(w, write(table, api.WInsert, at, number))
				case r.Intn(2) == 0:
					next, err = overlay.Add(w, write(table, api.WDelete, at))
				default:
					next, err = overlay.Add(w, write(table, api.WUpdate, at, number))
				}
				if err == api.OK {
					w = next
				}
			}
			snap := e.Last
			want := ""
			for i, l := range [][]api.Held{base1, base2} {
				var open []api.Held
				for _, h := range l {
					if h.V.To == 0 {
						open = append(open, h)
					}
				}
				want += fmt.Sprint(len(overlay.Data(open, w, []string{"t", "u"}[i]).Rows), " ")
			}
			next, err := Do(e, snap, w)
			if _, ok := base.Check(next); !ok {
				t.Fatal("Check")
			}
			if err == api.OK && len(w) > 0 {
				seen = append(seen, data(t, next, next.Last))
				_, db, _ := Data(next, next.Last)
				if got := fmt.Sprint(len(db[0].Rows), " ", len(db[1].Rows), " "); got != want {
					t.Fatal(got, want)
				}
				// Of two transactions with the same snapshot that write a row, the second one is rejected.
				for _, x := range w {
					if x.Row > 0 {
						if _, err := Do(next, snap, []api.Write{{Table: x.Table, Kind: api.WDelete, Row: x.Row}}); err != api.ErrConflict {
							t.Fatal(err)
						}
					}
				}
			}
			for s := range seen {
				if got := data(t, next, s); got != seen[s] {
					t.Fatalf("snapshot %d sees %s, not %s", s, got, seen[s])
				}
			}
			e = next
		}
		if len(seen) < 4 {
			t.Error(len(seen))
		}
	}
}
