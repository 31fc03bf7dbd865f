package vacuum

import (
	"fmt"
	"math/rand"
	"testing"

	"tabellion/api"
	"tabellion/aries"
	"tabellion/base"
	"tabellion/commit"
	"tabellion/disk"
	"tabellion/heap"
	"tabellion/parse"
	"tabellion/txn"
	"tabellion/value"
)

func engine(t *testing.T, l ...string) api.Engine {
	t.Helper()
	s, err := aries.Format(api.Size{Log: 4000, Pages: 60, Frames: 6})
	if err != api.OK {
		t.Fatal(err)
	}
	s, who, _ := txn.Begin(s)
	s, _, _ = heap.New(s, who)
	s, _ = txn.Commit(s, who)
	e := api.Engine{Store: s, Cat: api.Catalog{Next: 1}, Next: 1}
	for _, sql := range l {
		x, _, err := parse.Stmt(sql)
		if err == api.OK {
			e, err = base.Make(e, x)
		}
		if err != api.OK {
			t.Fatal(sql, err)
		}
	}
	return e
}

// put stores versions of rows with one column.
func put(t *testing.T, e api.Engine, table string, l ...[3]int) api.Engine {
	t.Helper()
	var who int
	e.Store, who, _ = txn.Begin(e.Store)
	for i, v := range l {
		var err api.Errno
		if e, err = base.Put(e, who, table, api.Version{Row: v[0], From: v[1], To: v[2], Data: api.Row{value.Num(i)}}); err != api.OK {
			t.Fatal(err)
		}
	}
	e.Store, _ = txn.Commit(e.Store, who)
	return e
}

func same(a, b any) bool { return fmt.Sprint(a) == fmt.Sprint(b) }

func left(t *testing.T, e api.Engine, table string) int {
	t.Helper()
	_, l, err := base.Load(e, table)
	if err != api.OK {
		t.Fatal(err)
	}
	return len(l)
}

func TestP55_1(t *testing.T) {
	e := engine(t, "create table t (a int, unique (a))", "create table u (a int)", "create index i on u (a)")
	e = put(t, e, "t", [3]int{1, 1, 3}, [3]int{1, 3, 7}, [3]int{1, 7, 0})
	e = put(t, e, "u", [3]int{2, 1, 5}, [3]int{3, 1, 0})
	for oldest, want := range map[int][3]int{2: {0, 3, 2}, 3: {1, 2, 2}, 5: {2, 2, 1}, 7: {3, 1, 1}, 99: {3, 1, 1}, 0: {0, 3, 2}, -1: {0, 3, 2}} {
		got, n, err := Run(e, oldest)
		if err != api.OK || n != want[0] || left(t, got, "t") != want[1] || left(t, got, "u") != want[2] || len(got.Store.Txns) != 0 {
			t.Error(oldest, n, err)
		}
		if (got.Store.Log.End > e.Store.Log.End) != (n > 0) || got.Last != e.Last || !same(got.Roots, e.Roots) {
			t.Error(oldest)
		}
	}
	if got, n, err := Run(engine(t), 9); n != 0 || err != api.OK || len(got.Cat.Tables) != 0 {
		t.Error(n, err)
	}
}

func TestP55_2(t *testing.T) {
	e := engine(t, "create table t (a int, unique (a))", "create table u (a int)")
	e = put(t, e, "t", [3]int{1, 1, 3}, [3]int{2, 1, 3})
	lost := e
	lost.Roots = e.Roots[:2]
	if got, n, err := Run(lost, 5); err != api.ErrArg || n != 0 || !same(got, lost) {
		t.Error(n, err)
	}
	// An entry is missing: what was erased before is there again.
	bad := e
	bad.Cat.Indexes = append([]api.Index{}, e.Cat.Indexes...)
	bad.Cat.Indexes[0].Cols = []int{1}
	if got, n, err := Run(bad, 5); err != api.ErrCount || n != 0 || left(t, got, "t") != 2 || len(got.Store.Txns) != 0 {
		t.Error(n, err)
	}
	tight := e
	tight.Store.Log.Sectors = e.Store.Log.End/128 + 1
	if _, n, err := Run(tight, 5); err != api.ErrFull || n != 0 {
		t.Error(n, err)
	}
	armed := e
	armed.Store.Disk = disk.Arm(e.Store.Disk, 1)
	if got, n, err := Run(armed, 5); err != api.ErrDown || n != 0 || !got.Store.Disk.Down || len(got.Store.Txns) != 1 {
		t.Error(n, err)
	}
}

func TestP55_3(t *testing.T) {
	r := rand.New(rand.NewSource(55))
	for range 10 {
		e := engine(t, "create table t (a int)", "create index i on t (a)")
		for range 25 {
			_, l, _ := base.Load(e, "t")
			w := api.Write{Table: "t", Kind: api.WInsert, Row: -1, Data: api.Row{value.Num(r.Intn(9))}}
			if len(l) > 0 && r.Intn(3) > 0 {
				w.Kind, w.Row = api.WUpdate+r.Intn(2), l[r.Intn(len(l))].V.Row
			}
			if next, err := commit.Do(e, e.Last, []api.Write{w}); err == api.OK {
				e = next
			}
		}
		oldest := r.Intn(e.Last + 2)
		got, n, err := Run(e, oldest)
		if _, ok := base.Check(got); !ok || err != api.OK {
			t.Fatal(ok, err)
		}
		for snap := oldest; snap <= e.Last+1; snap++ {
			_, a, _ := commit.Data(e, snap)
			_, b, _ := commit.Data(got, snap)
			if !same(a, b) {
				t.Fatalf("snapshot %d sees something different", snap)
			}
		}
		if left(t, e, "t")-left(t, got, "t") != n {
			t.Fatal(n)
		}
		if again, n, err := Run(got, oldest); n != 0 || err != api.OK || !same(again.Store.Log, got.Store.Log) {
			t.Fatal(n, err)
		}
	}
}
