package audit

import (
	"fmt"
	"math/rand"
	"reflect"
	"strings"
	"testing"

	"tabellion/api"
	"tabellion/ckpt"
	"tabellion/disk"
	"tabellion/engine"
	"tabellion/page"
	"tabellion/pool"
	"tabellion/script"
	"tabellion/session"
	"tabellion/space"
	"tabellion/txn"
	"tabellion/value"
)

var size = api.Size{Log: 6000, Pages: 100, Frames: 6}

func acts(t *testing.T, l ...string) []api.Act {
	t.Helper()
	a, line, err := script.Parse(strings.Join(l, "\n") + "\n")
	if err != api.OK {
		t.Fatal(line, err)
	}
	return a
}

func TestP60_1(t *testing.T) {
	full := func() api.Reply {
		return api.Reply{Kind: 7, E: 1, N: 2, Cols: []api.Col{{Table: "t", Name: "a", Type: 2}}, Rows: []api.Row{{value.Num(1), {}}, {}}, Text: []string{"x"}}
	}
	if !Same(full(), full()) || !Same(api.Reply{}, api.Reply{Rows: []api.Row{}, Text: []string{}, Cols: []api.Col{}}) {
		t.Error("equal replies")
	}
	for i, f := range []func(*api.Reply){
		func(r *api.Reply) { r.Kind++ }, func(r *api.Reply) { r.E++ }, func(r *api.Reply) { r.N++ }, func(r *api.Reply) { r.Cols = nil }, func(r *api.Reply) { r.Cols[0].Table = "" }, func(r *api.Reply) { r.Cols[0].Name = "" }, func(r *api.Reply) { r.Cols[0].Type++ },
		func(r *api.Reply) { r.Rows = r.Rows[:1] }, func(r *api.Reply) { r.Rows[0][0].N++ }, func(r *api.Reply) { r.Rows[0] = r.Rows[0][:1] }, func(r *api.Reply) { r.Rows[0], r.Rows[1] = r.Rows[1], r.Rows[0] }, func(r *api.Reply) { r.Text[0] = "y" }, func(r *api.Reply) { r.Text = append(r.Text, "") },
	} {
		other := full()
		f(&other)
		if Same(full(), other) || Same(other, full()) {
			t.Errorf("change %d makes no difference", i)
		}
	}
}

func TestP60_2(t *testing.T) {
	one := []api.Act{{Kind: api.AText, Text: "select 1"}}
	if got := Look(one, []api.Reply{{Kind: api.SQuery, N: 2}}); !reflect.DeepEqual(got, []api.Finding{{Kind: 1}}) {
		t.Error(got)
	}
	l := acts(t, "0: create table t (a int)", "0: insert into t values (1), (2)", "0: select * from t", "0: select z from t", "checkpoint")
	seen := script.Run(size, l)
	if got := Look(l, seen); len(got) != 0 {
		t.Error(got)
	}
	seen[2].Rows[1][0] = value.Num(3)
	seen[4].E = api.ErrNone
	if got := Look(l, seen); !reflect.DeepEqual(got, []api.Finding{{Kind: 1, At: 2}, {Kind: 1, At: 4}}) {
		t.Error(got)
	}
	if got := Look(l, seen[:3]); !reflect.DeepEqual(got, []api.Finding{{Kind: 1, At: 2}, {Kind: 2, At: 3}}) {
		t.Error(got)
	}
	if got := Look(l[:1], seen); !reflect.DeepEqual(got, []api.Finding{{Kind: 2, At: 1}}) {
		t.Error(got)
	}
	if got := Look(nil, nil); len(got) != 0 {
		t.Error(got)
	}
	if got := Look(nil, seen); !reflect.DeepEqual(got, []api.Finding{{Kind: 2, At: 0}}) {
		t.Error(got)
	}
}

func TestP60_3(t *testing.T) {
	e, err := engine.New(size)
	if err != api.OK {
		t.Fatal(err)
	}
	e, _, _ = session.Text(e, session.New(), "create table t (a int, unique (a))")
	e, _, r := session.Text(e, session.New(), "insert into t values (1), (2), (3)")
	if r.E != api.OK {
		t.Fatal(r)
	}
	s := e.Store
	if got := Store(s); len(got) != 0 {
		t.Error(got)
	}
	two, who, _ := txn.Begin(s)
	two, other, _ := txn.Begin(two)
	if got := Store(two); !reflect.DeepEqual(got, []api.Finding{{Kind: 3, At: 2}}) {
		t.Error(got, other)
	}
	down := two
	down.Disk.Down = true
	down.Pool, _ = pool.New(4)
	if got := Store(down); !reflect.DeepEqual(got, []api.Finding{{Kind: 3, At: 2}, {Kind: 4}}) {
		t.Error(got)
	}
	if got := Store(api.Store{}); !reflect.DeepEqual(got, []api.Finding{{Kind: 4}}) {
		t.Error(got)
	}
	change := func(at int, next string) api.Store {
		_, p, _ := pool.Get(two, at)
		got, err := pool.Change(two, api.Rec{Kind: api.KChange, Txn: who, Page: at, How: api.UPage, Op: api.Op{Kind: api.OAll, Old: page.SetLsn(p, 0), New: next}})
		if err != api.OK {
			t.Fatal(at, err)
		}
		return got
	}
	running := api.Finding{Kind: 3, At: 2}
	child, _ := page.Put(page.New(api.GNode), 0, "short")
	bytes, _ := page.Put(page.New(api.GLeaf), 0, "x")
	for i, c := range []struct {
		s    api.Store
		want []api.Finding
	}{
		{change(3, page.New(api.GFree)), []api.Finding{running, {Kind: 6, At: 3}}}, {change(9, page.New(api.GHeap)), []api.Finding{running, {Kind: 6, At: 9}}}, {change(3, child), []api.Finding{running, {Kind: 7, At: 3}}}, {change(3, bytes), []api.Finding{running, {Kind: 7, At: 3}}}, {change(9, bytes), []api.Finding{running, {Kind: 6, At: 9}}},
	} {
		if got := Store(c.s); !reflect.DeepEqual(got, c.want) {
			t.Errorf("%d: %v", i, got)
		}
	}
	torn := s
	torn.Disk, _ = disk.WritePage(s.Disk, 1+size.Log+4*50, strings.Repeat("z", 512))
	torn.Disk, _ = disk.WritePage(torn.Disk, 1+size.Log+4*60, strings.Repeat("z", 512))
	if got := Store(torn); !reflect.DeepEqual(got, []api.Finding{{Kind: 4, At: 50}, {Kind: 4, At: 60}}) {
		t.Error(got)
	}
	wrong := s
	wrong.Pool.Frames = append([]api.Frame{}, s.Pool.Frames...)
	for i, f := range wrong.Pool.Frames {
		if f.Page == 2 && f.Bytes != "" {
			wrong.Pool.Frames[i].Bytes = "no page"
			wrong.Pool.Frames[i].Pins = 1
		}
	}
	if got := Store(wrong); !reflect.DeepEqual(got, []api.Finding{{Kind: 5, At: 2}}) {
		t.Error(got)
	}
	freed, _ := space.Free(two, who, 3)
	if got := Store(freed); !reflect.DeepEqual(got, []api.Finding{running}) {
		t.Error(got)
	}
}

// sweep is a script that is run with the power failing at every sector.
var sweep = []string{
	"0: create table t (a int, b text, unique (a), check (a < 100))", "0: insert into t values (1, 'x'), (2, 'y'), (3, 'z')", "0: create table u (x int, foreign key (x) references t (a))", "0: create index i on t (b, a)", "0: insert into u values (1), (null)",
	"1: begin", "1: update t set b = b || b where a > 1", "0: insert into t select a + 10, b || 'mmmmmmmmmmmmmmmmmmmmmmmmmmmmmmmmmmmmmmmmmmmm' from t", "1: delete from u where x is null", "1: commit", "flush 3", "checkpoint", "0: update t set a = a + 20 where a > 10", "0: delete from u", "0: delete from t where a = 1",
	"0: vacuum", "0: drop index i", "0: insert into t select a + 40, b from t", "0: analyze", "0: select a, b from t order by a", "0: drop table u",
}

func TestP60_4(t *testing.T) {
	ends := []string{"open", "0: select a, b from t order by a", "0: select x from u order by 1", "0: insert into t values (99, 'end')", "0: select count(*) from t", "open", "0: select a from t where b = 'end'"}
	failed := 0
	for n := 0; ; n += 1 + n/40 {
		l := acts(t, append(append([]string{fmt.Sprint("power ", n)}, sweep...), ends...)...)
		seen := script.Run(size, l)
		if found := Look(l, seen); len(found) != 0 {
			t.Fatalf("power %d: %v", n, found)
		}
		down := false
		for _, r := range seen {
			down = down || r.E == api.ErrDown
			if r.E == api.ErrFull {
				t.Fatalf("power %d: no space", n)
			}
		}
		if !down {
			break
		}
		failed++
	}
	if failed < 60 {
		t.Error(failed)
	}
}

func TestP60_4Random(t *testing.T) {
	r := rand.New(rand.NewSource(60))
	one := func(l ...string) string { return l[r.Intn(len(l))] }
	for range 40 {
		z := api.Size{Log: 7000, Pages: 120, Frames: 4 + r.Intn(8)}
		e, err := engine.New(z)
		if err != api.OK {
			t.Fatal(err)
		}
		var s [3]api.Session
		for _, sql := range []string{"create table t (a int, b text, unique (a))", "create table u (x int, foreign key (x) references t (a))", "create index i on t (b)"} {
			e, _, _ = session.Text(e, session.New(), sql)
		}
		for range 60 {
			k := fmt.Sprint(r.Intn(9))
			who := r.Intn(3)
			sql := one("insert into t values ("+k+", 'xxxxxxxxxxxxxxxxxxxxxxxxxxxxxxxxxxxx')", "insert into t select a + 9, b from t where a < "+k, "insert into u values ("+k+")", "update t set b = '"+strings.Repeat("y", r.Intn(80))+"' where a > "+k, "delete from t where a = "+k, "delete from u", "begin", "commit", "rollback", "vacuum")
			var reply api.Reply
			e, s[who], reply = session.Text(e, s[who], sql)
			if r.Intn(20) == 0 && reply.E == api.OK {
				e.Store, _ = ckpt.Take(e.Store)
			}
			if r.Intn(8) == 0 && !e.Store.Disk.Down {
				e.Store.Disk = disk.Arm(e.Store.Disk, r.Intn(50))
			}
			if !e.Store.Disk.Down && r.Intn(15) > 0 {
				continue
			}
			for n := r.Intn(60); ; n = 1 << 20 {
				opened, err := engine.Open(disk.Arm(disk.Start(e.Store.Disk), n), z)
				e.Store.Disk = opened.Store.Disk
				if err == api.OK {
					e, s = opened, [3]api.Session{}
					e.Store.Disk = disk.Start(e.Store.Disk)
					break
				}
				if err != api.ErrDown {
					t.Fatal(err)
				}
			}
			if found := Store(e.Store); len(found) != 0 {
				t.Fatal(found)
			}
			if _, ok := engine.Check(e); !ok {
				t.Fatal("Check")
			}
		}
	}
}
