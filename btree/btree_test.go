package btree

import (
	"fmt"
	"math"
	"math/rand"
	"slices"
	"strings"
	"testing"

	"tabellion/api"
	"tabellion/disk"
	"tabellion/log"
	"tabellion/node"
	"tabellion/page"
	"tabellion/pool"
	"tabellion/space"
	"tabellion/txn"
)

// store returns a formatted store with transaction 1.
func store(t *testing.T, pages, frames int) api.Store {
	t.Helper()
	const sectors = 8000
	d, err := disk.New(1 + sectors + 4*pages)
	if err != api.OK {
		t.Fatal(err)
	}
	p, _ := pool.New(frames)
	s, _, _ := txn.Begin(api.Store{Size: api.Size{Log: sectors, Pages: pages, Frames: frames}, Disk: d, Log: log.New(1, sectors), Pool: p, Next: 1})
	s, err = space.Format(s, 1)
	if err != api.OK {
		t.Fatal(err)
	}
	return s
}

func made(t *testing.T, pages, frames int) (api.Store, int) {
	t.Helper()
	s, root, err := New(store(t, pages, frames), 1)
	if err != api.OK {
		t.Fatal(err)
	}
	return s, root
}

func entry(key string, at, slot int) api.Entry {
	return api.Entry{Key: key, Rid: api.Rid{Page: at, Slot: slot}}
}

// wide returns an entry whose record has 100 bytes.
func wide(n int) api.Entry { return entry(fmt.Sprintf("%095d", n), n, 0) }

func put(t *testing.T, s api.Store, root int, l ...api.Entry) api.Store {
	t.Helper()
	for _, e := range l {
		var err api.Errno
		if s, err = Put(s, 1, root, e); err != api.OK {
			t.Fatal(e, err)
		}
	}
	return s
}

func height(t *testing.T, s api.Store, root int) int {
	t.Helper()
	_, h, err := Height(s, root)
	if err != api.OK {
		t.Fatal(err)
	}
	return h
}

func all(t *testing.T, s api.Store, root int) []api.Entry {
	t.Helper()
	_, l, err := Range(s, root, "", "")
	if err != api.OK {
		t.Fatal(err)
	}
	return l
}

func same(a, b any) bool { return fmt.Sprint(a) == fmt.Sprint(b) }

func last(s api.Store) api.Rec {
	r, _ := log.Read(s.Disk, s.Log, txn.Mark(s, 1))
	return r
}

// damaged returns the store with a page that is no page of a tree.
func damaged(t *testing.T, s api.Store, at int) api.Store {
	t.Helper()
	_, p, _ := pool.Get(s, at)
	s, err := pool.Change(s, api.Rec{Kind: api.KChange, Txn: 1, Page: at, How: api.UPage, Op: api.Op{Kind: api.OAll, Old: page.SetLsn(p, 0), New: page.New(api.GHeap)}})
	if err != api.OK {
		t.Fatal(err)
	}
	return s
}

func TestP46_1(t *testing.T) {
	s, root := made(t, 3, 4)
	if root != 1 || len(all(t, s, root)) != 0 || height(t, s, root) != 1 {
		t.Error(root)
	}
	s, two, _ := New(s, 1)
	if got, at, err := New(s, 1); two != 2 || err != api.ErrFull || at != 0 || !same(got, s) {
		t.Error(two, at, err)
	}
}

func TestP46_2(t *testing.T) {
	s, root := made(t, 30, 6)
	for _, e := range []api.Entry{entry(strings.Repeat("k", 101), 0, 0), entry("", 1<<23, 0), entry("", -1, 0), entry("", 0, 1<<15), entry("", 0, -1), entry("", math.MaxInt, 0)} {
		if got, err := Put(s, 1, root, e); err != api.ErrArg || !same(got, s) {
			t.Error(e, err)
		}
		if got, err := Put(s, 1, 99, e); err != api.ErrArg || !same(got, s) {
			t.Error(e, err)
		}
	}
	for _, at := range []int{0, 5, -1, 30, math.MaxInt} {
		if got, err := Put(s, 1, at, wide(1)); err != api.ErrArg || !same(got, s) {
			t.Error(at, err)
		}
	}
	one := put(t, s, root, wide(2), wide(1))
	r := last(one)
	if r.Kind != api.KChange || r.How != api.UPut || r.Root != root || r.E != wide(1) || r.Page != root || r.Op != (api.Op{Kind: api.OAdd, Slot: 0, New: node.PutEntry(wide(1))}) {
		t.Errorf("%v", r)
	}
	if got, err := Put(one, 1, root, wide(1)); err != api.ErrTwice || !same(got, one) {
		t.Error(err)
	}
	if _, err := Put(one, 1, root, entry(wide(1).Key, 1, 1)); err != api.OK {
		t.Error("the same key with another Rid", err)
	}
	if got, err := Put(one, 7, root, wide(3)); err != api.ErrNone || !same(got, one) {
		t.Error(err)
	}
	four := put(t, one, root, wide(3), wide(4))
	mark := txn.Mark(four, 1)
	five := put(t, four, root, wide(5))
	if height(t, four, root) != 1 || height(t, five, root) != 2 {
		t.Error("the example")
	}
	_, p, _ := pool.Get(five, root)
	_, l, _ := pool.Get(five, 2)
	_, m, _ := pool.Get(five, 3)
	if page.Kind(p) != api.GNode || fmt.Sprint(node.Children(p)) != "[2 3]" || node.Entries(p)[0] != (api.Entry{}) || node.Entries(p)[1] != wide(3) || len(node.Entries(l)) != 2 || len(node.Entries(m)) != 3 || page.Link(l) != 3 || page.Link(m) != 0 || page.Link(p) != 0 {
		t.Error(node.Entries(p), node.Entries(l), node.Entries(m))
	}
	// The record before the last one ends the nested action that split the root.
	put5 := last(five)
	nest, _ := log.Read(five.Disk, five.Log, put5.Prev)
	whole, _ := log.Read(five.Disk, five.Log, nest.Prev)
	if put5.How != api.UPut || put5.Page != 3 || nest.Kind != api.KNest || nest.Next != mark || whole.Page != root || whole.How != api.UPage || page.Lsn(whole.Op.New)+page.Lsn(whole.Op.Old) != 0 {
		t.Errorf("%v\n%v", nest, put5)
	}
	// Another leaf is split: its right part comes immediately after it in the parent.
	six := put(t, five, root, wide(6), entry(wide(1).Key, 9, 9), entry(wide(1).Key, 9, 8), entry(wide(1).Key, 9, 7))
	_, p, _ = pool.Get(six, root)
	_, l, _ = pool.Get(six, 2)
	if fmt.Sprint(node.Children(p)) != "[2 4 3]" || page.Link(l) != 4 {
		t.Error(node.Children(p), page.Link(l))
	}
	tight := four
	tight.Log.Sectors = tight.Log.End/128 + 3
	if got, err := Put(tight, 1, root, wide(5)); err != api.ErrFull || !same(got, tight) {
		t.Error(err)
	}
	few, root := made(t, 3, 4)
	few = put(t, few, root, wide(1), wide(2), wide(3), wide(4))
	if got, err := Put(few, 1, root, wide(5)); err != api.ErrFull || !same(got, few) {
		t.Error(err)
	}
	down := four
	down.Pool.Frames = slices.Clone(down.Pool.Frames)
	down.Disk = disk.Arm(down.Disk, 0)
	small, root := made(t, 30, 1)
	small = put(t, small, root, wide(1), wide(2), wide(3), wide(4))
	small.Disk = disk.Arm(small.Disk, 9)
	if got, err := Put(small, 1, root, wide(5)); err != api.ErrDown || !got.Disk.Down {
		t.Error(err)
	}
}

func TestP46_3(t *testing.T) {
	s, root := made(t, 30, 6)
	s = put(t, s, root, wide(1), wide(2), wide(3), wide(4), wide(5))
	got, err := Cut(s, 1, root, wide(4))
	r := last(got)
	if err != api.OK || r.How != api.UCut || r.Root != root || r.E != wide(4) || r.Page != 3 || r.Op != (api.Op{Kind: api.ODel, Slot: 1, Old: node.PutEntry(wide(4))}) {
		t.Errorf("%v %d", r, err)
	}
	for _, e := range []api.Entry{wide(9), entry("", 0, 0), entry(wide(1).Key, 5, 5), entry(strings.Repeat("z", 300), -1, -1)} {
		if again, err := Cut(s, 1, root, e); err != api.ErrNone || !same(again, s) {
			t.Error(e, err)
		}
	}
	for _, at := range []int{0, 9, -1, 30} {
		if again, err := Cut(s, 1, at, wide(1)); err != api.ErrArg || !same(again, s) {
			t.Error(at, err)
		}
	}
	if again, err := Cut(s, 8, root, wide(1)); err != api.ErrNone || !same(again, s) {
		t.Error(err)
	}
	for i := 1; i <= 5; i++ {
		s, _ = Cut(s, 1, root, wide(i))
	}
	if _, ok, _ := Check(s, root); !ok || len(all(t, s, root)) != 0 || height(t, s, root) != 2 {
		t.Error("leaves may become empty")
	}
	if again, err := Cut(damaged(t, s, 3), 1, root, wide(5)); err != api.ErrArg {
		t.Error(again.Log.End, err)
	}
}

func TestP46_4(t *testing.T) {
	s, root := made(t, 60, 6)
	var l []api.Entry
	for i := range 60 {
		l = append(l, entry(fmt.Sprintf("%040d", i/2), i%2, 0))
	}
	s = put(t, s, root, l...)
	key := func(n int) string { return fmt.Sprintf("%040d", n) }
	for i, c := range []struct {
		lo, hi   string
		from, to int
	}{
		{"", "", 0, 60}, {key(5), "", 10, 60}, {"", key(5), 0, 10}, {key(5), key(7), 10, 14}, {key(5), key(5), 0, 0}, {key(7), key(5), 0, 0}, {key(5) + "x", key(7) + "x", 12, 16}, {"z", "", 0, 0}, {"", "\x00", 0, 0}, {strings.Repeat("0", 200), "", 2, 60},
	} {
		if _, got, err := Range(s, root, c.lo, c.hi); err != api.OK || !same(got, l[c.from:c.to]) {
			t.Errorf("%d: %d entries, %d", i, len(got), err)
		}
	}
	for _, at := range []int{0, 59, -1, 60} {
		if got, l, err := Range(s, at, "", ""); err != api.ErrArg || len(l) != 0 || !same(got, s) {
			t.Error(at, err)
		}
	}
	first := root
	_, p, _ := pool.Get(s, first)
	for page.Kind(p) == api.GNode {
		first = node.Children(p)[0]
		_, p, _ = pool.Get(s, first)
	}
	if _, l, err := Range(damaged(t, s, page.Link(p)), root, "", ""); err != api.ErrArg || len(l) != 0 {
		t.Error(err)
	}
	circle, err := pool.Change(s, api.Rec{Kind: api.KChange, Txn: 1, Page: first, How: api.UPage, Op: api.Op{Kind: api.OLink, Old: fmt.Sprint(page.Link(p)), New: fmt.Sprint(first)}})
	if _, l, rerr := Range(circle, root, "", ""); err != api.OK || rerr != api.ErrArg || len(l) != 0 {
		t.Error(err, rerr)
	}
	down := s
	down.Disk.Down = true
	if _, _, err := Range(down, root, "", ""); err != api.ErrDown {
		t.Error(err)
	}
}

func TestP46_5(t *testing.T) {
	s, root := made(t, 60, 6)
	for i := range 40 {
		s = put(t, s, root, wide(i))
	}
	if h := height(t, s, root); h != 4 {
		t.Error(h)
	}
	for _, at := range []int{0, 59, -1, 60} {
		if got, h, err := Height(s, at); err != api.ErrArg || h != 0 || !same(got, s) {
			t.Error(at, err)
		}
		if got, err := Drop(s, 1, at); err != api.ErrArg || !same(got, s) {
			t.Error(at, err)
		}
	}
	if _, ok, err := Check(s, root); !ok || err != api.OK {
		t.Error(ok, err)
	}
	if _, ok, err := Check(s, 0); ok || err != api.OK {
		t.Error(ok, err)
	}
	for _, at := range []int{-1, 60} {
		if got, ok, err := Check(s, at); ok || err != api.ErrArg || !same(got, s) {
			t.Error(ok, err)
		}
	}
	_, used, _ := space.Used(s)
	// Whatever is changed in one page, the tree is not valid any more.
	for _, at := range used[1:] {
		_, p, _ := pool.Get(s, at)
		bare := page.SetLsn(p, 0)
		var bad []string
		bad = append(bad, page.New(api.GHeap), page.SetLink(bare, page.Link(p)+1))
		if page.Kind(p) == api.GLeaf {
			e := node.Entries(p)[0]
			before, _ := page.Set(bare, 0, node.PutEntry(entry("", 0, 0)))
			after, _ := page.Add(bare, page.Slots(p), node.PutEntry(entry("z", 0, 0)))
			if e != wide(0) {
				bad = append(bad, before)
			}
			if page.Link(p) != 0 {
				bad = append(bad, after, page.SetLink(bare, 0))
			}
		} else {
			e := node.Entries(p)[1]
			one, _ := page.Set(bare, 1, node.PutChild(e, node.Children(p)[0]))
			self, _ := page.Set(bare, 1, node.PutChild(e, at))
			great, _ := page.Set(bare, page.Slots(p)-1, node.PutChild(wide(99), node.Children(p)[page.Slots(p)-1]))
			fewer, _ := page.Del(bare, 1)
			bad = append(bad, one, self, great, fewer)
		}
		for i, next := range bad {
			x, err := pool.Change(s, api.Rec{Kind: api.KChange, Txn: 1, Page: at, How: api.UPage, Op: api.Op{Kind: api.OAll, Old: bare, New: next}})
			if err != api.OK {
				t.Fatal(at, i, err)
			}
			if _, ok, err := Check(x, root); ok || err != api.OK {
				t.Errorf("page %d: change %d is not noticed: %d", at, i, err)
			}
		}
	}
	got, err := Drop(s, 1, root)
	_, left, _ := space.Used(got)
	if err != api.OK || fmt.Sprint(left) != "[0]" {
		t.Error(left, err)
	}
	bad := damaged(t, s, used[len(used)-1])
	if again, err := Drop(bad, 1, root); err != api.ErrArg || !same(again, bad) {
		t.Error(err)
	}
	if again, err := Drop(s, 4, root); err != api.ErrNone || !same(again, s) {
		t.Error(err)
	}
}

func TestP46_6(t *testing.T) {
	r := rand.New(rand.NewSource(46))
	for round := range 5 {
		s := store(t, 300, 2+r.Intn(20))
		var roots [2]int
		models := []map[api.Entry]bool{{}, {}}
		for i := range roots {
			s, roots[i], _ = New(s, 1)
		}
		random := func() api.Entry {
			return entry(strings.Repeat(string(rune('a'+r.Intn(20))), 1+r.Intn(5)*r.Intn(20)), r.Intn(40), r.Intn(3))
		}
		for step := range 300 {
			i := r.Intn(2)
			e := random()
			if len(models[i]) > 0 && r.Intn(2) == 0 {
				for k := range models[i] {
					e = k
				}
			}
			before := height(t, s, roots[i])
			if r.Intn(3) > 0 {
				next, err := Put(s, 1, roots[i], e)
				if (err == api.OK) == models[i][e] || err != api.OK && err != api.ErrTwice {
					t.Fatal(e, err)
				}
				s, models[i][e] = next, true
			} else {
				next, err := Cut(s, 1, roots[i], e)
				if (err == api.OK) != models[i][e] || err != api.OK && err != api.ErrNone {
					t.Fatal(e, err)
				}
				s = next
				delete(models[i], e)
			}
			if h := height(t, s, roots[i]); h > before+1 || h < before {
				t.Fatal(before, h)
			}
			if step%20 == 0 || round == 0 && step < 150 {
				checkModel(t, s, roots[i], models[i])
			}
		}
		s, _ = Drop(s, 1, roots[0])
		checkModel(t, s, roots[1], models[1])
		s, _ = Drop(s, 1, roots[1])
		if _, used, _ := space.Used(s); fmt.Sprint(used) != "[0]" {
			t.Fatal(used)
		}
	}
}

func checkModel(t *testing.T, s api.Store, root int, model map[api.Entry]bool) {
	t.Helper()
	if _, ok, err := Check(s, root); !ok || err != api.OK {
		t.Fatal("not valid", err)
	}
	l := all(t, s, root)
	if len(l) != len(model) {
		t.Fatal(len(l), len(model))
	}
	for i, e := range l {
		if !model[e] || i > 0 && !node.Less(l[i-1], e) {
			t.Fatal(e)
		}
	}
}
