package heap

import (
	"fmt"
	"math"
	"math/rand"
	"slices"
	"strings"
	"testing"

	"tabellion/api"
	"tabellion/disk"
	"tabellion/log"
	"tabellion/page"
	"tabellion/pool"
	"tabellion/space"
	"tabellion/txn"
)

// store returns a formatted store with transaction 1.
func store(t *testing.T, pages, frames int) api.Store {
	t.Helper()
	const sectors = 4000
	d, err := disk.New(1 + sectors + 4*pages)
	if err != api.OK {
		t.Fatal(err)
	}
	p, _ := pool.New(frames)
	s, _, _ := txn.Begin(api.Store{Size: api.Size{Log: sectors, Pages: pages, Frames: frames}, Disk: d, Log: log.New(1, sectors), Pool: p, Next: 1})
	s, err = space.Format(s, 1)
	if err != api.OK {
		t.Fatal(err)
	}
	return s
}

func made(t *testing.T, pages, frames int) (api.Store, int) {
	t.Helper()
	s, root, err := New(store(t, pages, frames), 1)
	if err != api.OK {
		t.Fatal(err)
	}
	return s, root
}

func insert(t *testing.T, s api.Store, root int, rec string) (api.Store, api.Rid) {
	t.Helper()
	s, at, err := Insert(s, 1, root, rec)
	if err != api.OK {
		t.Fatal(err)
	}
	return s, at
}

func same(a, b any) bool { return fmt.Sprint(a) == fmt.Sprint(b) }

func rec(n int) string { return strings.Repeat("r", n) }

func TestP44_1(t *testing.T) {
	s, root := made(t, 4, 4)
	if root != 1 {
		t.Error(root)
	}
	_, p, _ := pool.Get(s, root)
	if page.Kind(p) != api.GHeap || page.Link(p) != 0 || page.Slots(p) != 0 {
		t.Error("the root")
	}
	s, two, _ := New(s, 1)
	s, three, _ := New(s, 1)
	if two != 2 || three != 3 {
		t.Error(two, three)
	}
	if got, at, err := New(s, 1); err != api.ErrFull || at != 0 || !same(got, s) {
		t.Error(err)
	}
}

func TestP44_2(t *testing.T) {
	s, root := made(t, 8, 4)
	for i := range 13 {
		next, at := insert(t, s, root, rec(100))
		if want := (api.Rid{Page: 1 + i/4, Slot: i % 4}); at != want {
			t.Errorf("record %d: %v", i, at)
		}
		s = next
	}
	// The first page with room is taken, and its lowest free slot.
	s, _ = Cut(s, 1, api.Rid{Page: 2, Slot: 1})
	if _, at := insert(t, s, root, rec(100)); at != (api.Rid{Page: 2, Slot: 1}) {
		t.Error(at)
	}
	if _, at := insert(t, s, root, rec(73)); at != (api.Rid{Page: 1, Slot: 4}) {
		t.Error(at)
	}
	if _, at := insert(t, s, 3, rec(70)); at != (api.Rid{Page: 3, Slot: 4}) {
		t.Error("from a later page on", at)
	}
	for _, n := range []int{0, 401} {
		if got, at, err := Insert(s, 1, root, rec(n)); err != api.ErrArg || at != (api.Rid{}) || !same(got, s) {
			t.Error(n, err)
		}
	}
	for _, at := range []int{0, 7, -1, 99, math.MaxInt} {
		if got, _, err := Insert(s, 1, at, "x"); err != api.ErrArg || !same(got, s) {
			t.Error(at, err)
		}
	}
	if got, _, err := Insert(s, 9, root, "x"); err != api.ErrNone || !same(got, s) {
		t.Error(err)
	}
	// A new page is added by a nested action, which the insertion itself follows.
	full, root := made(t, 4, 4)
	full, _ = insert(t, full, root, rec(400))
	mark := txn.Mark(full, 1)
	next, at := insert(t, full, root, rec(400))
	put, _ := log.Read(next.Disk, next.Log, txn.Mark(next, 1))
	nest, _ := log.Read(next.Disk, next.Log, put.Prev)
	link, _ := log.Read(next.Disk, next.Log, nest.Prev)
	if at != (api.Rid{Page: 2}) || put.Op != (api.Op{Kind: api.OPut, New: rec(400)}) || put.How != api.UPage || nest.Kind != api.KNest || nest.Next != mark || link.Page != 1 || link.Op != (api.Op{Kind: api.OLink, Old: "0", New: "2"}) {
		t.Errorf("%v\n%v\n%v", put, nest, link)
	}
	next, _ = insert(t, next, root, rec(400))
	if got, _, err := Insert(next, 1, root, rec(400)); err != api.ErrFull || !same(got, next) {
		t.Error(err)
	}
	// There is room in the log for the page, but not for the record.
	tight := full
	tight.Log.Sectors = (next.Log.End-2200)/128 + 1
	if got, _, err := Insert(tight, 1, root, rec(400)); err != api.ErrFull || !same(got, tight) {
		t.Error(err)
	}
	// With one frame, the other heap's page must be written first.
	down, root := made(t, 8, 1)
	down, _, _ = New(down, 1)
	down.Disk = disk.Arm(down.Disk, 3)
	if got, at, err := Insert(down, 1, root, "x"); err != api.ErrDown || at != (api.Rid{}) || !got.Disk.Down {
		t.Error(at, err)
	}
	if got, _, _, err := Scan(down, root); err != api.ErrDown || !got.Disk.Down {
		t.Error(err)
	}
}

func TestP44_3(t *testing.T) {
	s, root := made(t, 8, 4)
	s, a := insert(t, s, root, "abc")
	s, b := insert(t, s, root, rec(390))
	if got, r, err := Get(s, a); r != "abc" || err != api.OK || !same(got.Log, s.Log) {
		t.Error(r, err)
	}
	for at, want := range map[api.Rid]api.Errno{
		{Page: 1, Slot: 2}: api.ErrNone, {Page: 1, Slot: -1}: api.ErrNone, {Page: 0, Slot: 0}: api.ErrArg, {Page: 5, Slot: 0}: api.ErrArg, {Page: 8}: api.ErrArg, {Page: -1}: api.ErrArg,
	} {
		if got, r, err := Get(s, at); err != want || r != "" || !same(got, s) {
			t.Error(at, err)
		}
		if got, err := Set(s, 1, at, "x"); err != want || !same(got, s) {
			t.Error(at, err)
		}
		if got, err := Cut(s, 1, at); err != want || !same(got, s) {
			t.Error(at, err)
		}
		if _, err := Set(s, 1, at, ""); err != api.ErrArg {
			t.Error(at, err)
		}
	}
	got, err := Set(s, 1, a, "defghi")
	if _, r, _ := Get(got, a); err != api.OK || r != "defghi" {
		t.Error(r, err)
	}
	r, _ := log.Read(got.Disk, got.Log, txn.Mark(got, 1))
	if r.Op != (api.Op{Kind: api.OSet, Slot: 0, Old: "abc", New: "defghi"}) || r.How != api.UPage {
		t.Error(r)
	}
	for i, f := range []func() (api.Store, api.Errno){
		func() (api.Store, api.Errno) { return Set(s, 1, a, rec(401)) }, func() (api.Store, api.Errno) { return Set(s, 1, a, rec(200)) },
		func() (api.Store, api.Errno) { return Set(s, 3, a, "x") }, func() (api.Store, api.Errno) { return Cut(s, 3, a) },
	} {
		want := []api.Errno{api.ErrArg, api.ErrFull, api.ErrNone, api.ErrNone}[i]
		if got, err := f(); err != want || !same(got, s) {
			t.Error(i, err)
		}
	}
	got, err = Cut(s, 1, b)
	r, _ = log.Read(got.Disk, got.Log, txn.Mark(got, 1))
	if err != api.OK || r.Op != (api.Op{Kind: api.OCut, Slot: 1, Old: rec(390)}) {
		t.Error(err, r)
	}
	if _, _, err := Get(got, b); err != api.ErrNone {
		t.Error(err)
	}
}

func TestP44_4(t *testing.T) {
	s, root := made(t, 8, 4)
	if _, rids, recs, err := Scan(s, root); len(rids)+len(recs) != 0 || err != api.OK {
		t.Error(err)
	}
	for _, r := range []string{"a", rec(300), "b", rec(200), "c"} {
		s, _ = insert(t, s, root, r)
	}
	s, _ = Cut(s, 1, api.Rid{Page: 1, Slot: 0})
	_, rids, recs, err := Scan(s, root)
	if err != api.OK || fmt.Sprint(rids) != "[{1 1} {1 2} {1 3} {2 0}]" || !slices.Equal(recs, []string{rec(300), "b", "c", rec(200)}) {
		t.Error(rids, err)
	}
	if _, rids, _, _ := Scan(s, 2); fmt.Sprint(rids) != "[{2 0}]" {
		t.Error(rids)
	}
	for _, at := range []int{0, 7, -1, 8} {
		if got, rids, recs, err := Scan(s, at); err != api.ErrArg || len(rids)+len(recs) != 0 || !same(got, s) {
			t.Error(at, err)
		}
		if got, err := Drop(s, 1, at); err != api.ErrArg || !same(got, s) {
			t.Error(at, err)
		}
	}
	// A circle of pages.
	circle, _ := change(s, 1, 2, api.Op{Kind: api.OLink, Old: "0", New: "1"})
	if _, _, _, err := Scan(circle, root); err != api.ErrArg {
		t.Error(err)
	}
	if _, err := Drop(circle, 1, root); err != api.ErrArg {
		t.Error(err)
	}
	if _, _, err := Insert(circle, 1, root, rec(400)); err != api.ErrArg {
		t.Error(err)
	}
	dropped, err := Drop(s, 1, root)
	_, used, _ := space.Used(dropped)
	if err != api.OK || fmt.Sprint(used) != "[0]" {
		t.Error(used, err)
	}
	if got, err := Drop(s, 5, root); err != api.ErrNone || !same(got, s) {
		t.Error(err)
	}
}

func TestP44_5(t *testing.T) {
	r := rand.New(rand.NewSource(44))
	for range 20 {
		s := store(t, 60, 1+r.Intn(6))
		models := []map[api.Rid]string{{}, {}}
		var roots [2]int
		for i := range roots {
			s, roots[i], _ = New(s, 1)
		}
		for range 150 {
			i := r.Intn(2)
			x := strings.Repeat(string(rune('a'+r.Intn(26))), 1+r.Intn(120))
			var at api.Rid
			for k := range models[i] {
				at = k
			}
			var err api.Errno
			switch {
			case len(models[i]) == 0 || r.Intn(3) > 0:
				s, at, err = Insert(s, 1, roots[i], x)
				if _, ok := models[i][at]; ok || err != api.OK {
					t.Fatal(at, err)
				}
				models[i][at] = x
			case r.Intn(2) == 0:
				if s, err = Set(s, 1, at, x); err == api.OK {
					models[i][at] = x
				} else if err != api.ErrFull {
					t.Fatal(err)
				}
			default:
				if s, err = Cut(s, 1, at); err != api.OK {
					t.Fatal(err)
				}
				delete(models[i], at)
			}
		}
		for i, m := range models {
			_, rids, recs, err := Scan(s, roots[i])
			if err != api.OK || len(rids) != len(m) {
				t.Fatal(len(rids), len(m), err)
			}
			for k, at := range rids {
				if _, got, _ := Get(s, at); m[at] != recs[k] || got != recs[k] {
					t.Fatal(at)
				}
			}
		}
		s, _ = Drop(s, 1, roots[0])
		_, used, _ := space.Used(s)
		_, rids, _, err := Scan(s, roots[1])
		pages := map[int]bool{0: true, roots[1]: true}
		for _, at := range rids {
			pages[at.Page] = true
		}
		if err != api.OK || len(rids) != len(models[1]) || len(used) < len(pages) {
			t.Fatal(used, err)
		}
		for _, at := range used {
			if _, p, _ := pool.Get(s, at); at > 0 && page.Kind(p) != api.GHeap {
				t.Fatal("a page in use")
			}
		}
	}
}
