package undo

import (
	"fmt"
	"math/rand"
	"strings"
	"testing"

	"tabellion/api"
	"tabellion/btree"
	"tabellion/disk"
	"tabellion/heap"
	"tabellion/log"
	"tabellion/pool"
	"tabellion/space"
	"tabellion/txn"
)

// store returns a formatted store with transaction 2.
func store(t *testing.T, pages, frames int) api.Store {
	t.Helper()
	const sectors = 6000
	d, err := disk.New(1 + sectors + 4*pages)
	if err != api.OK {
		t.Fatal(err)
	}
	p, _ := pool.New(frames)
	s, _, _ := txn.Begin(api.Store{Size: api.Size{Log: sectors, Pages: pages, Frames: frames}, Disk: d, Log: log.New(1, sectors), Pool: p, Next: 1})
	s, _ = space.Format(s, 1)
	s, _ = txn.Commit(s, 1)
	s, n, err := txn.Begin(s)
	if n != 2 || err != api.OK {
		t.Fatal(n, err)
	}
	return s
}

func same(a, b any) bool { return fmt.Sprint(a) == fmt.Sprint(b) }

func entry(key string, n int) api.Entry { return api.Entry{Key: key, Rid: api.Rid{Page: n}} }

// wide returns an entry four of which fill a leaf.
func wide(n int) api.Entry { return entry(fmt.Sprintf("%095d", n), n) }

func next(s api.Store, who int) api.Rec {
	x, _ := txn.Find(s, who)
	r, _ := log.Read(s.Disk, s.Log, x.Next)
	return r
}

func last(s api.Store, who int) api.Rec {
	r, _ := log.Read(s.Disk, s.Log, txn.Mark(s, who))
	return r
}

func entries(t *testing.T, s api.Store, root int) string {
	t.Helper()
	_, l, err := btree.Range(s, root, "", "")
	if _, ok, _ := btree.Check(s, root); !ok || err != api.OK {
		t.Fatal("not a valid tree", err)
	}
	return fmt.Sprint(l)
}

func records(t *testing.T, s api.Store, root int) string {
	t.Helper()
	_, rids, recs, err := heap.Scan(s, root)
	if err != api.OK {
		t.Fatal(err)
	}
	return fmt.Sprint(rids, recs)
}

func TestP47_1(t *testing.T) {
	s, h, _ := heap.New(store(t, 40, 8), 2)
	s, b, _ := btree.New(s, 2)
	before := txn.Mark(s, 2)
	put, _, _ := heap.Insert(s, 2, h, "abc")
	r := next(put, 2)
	got, err := One(put, r)
	c := last(got, 2)
	if err != api.OK || c.Kind != api.KClr || c.Op != (api.Op{Kind: api.OCut, Old: "abc"}) || c.Page != h || c.Next != before || c.Txn != 2 || records(t, got, h) != "[] []" || got.Txns[0].Next != before {
		t.Error(c, err)
	}
	if again, err := One(got, r); err != api.ErrNone || !same(again, got) {
		t.Error("nothing is undone twice", err)
	}
	for _, bad := range []api.Rec{{}, {Kind: api.KBegin, Txn: 9}, {Kind: api.KChange, Txn: 2, Lsn: 1}} {
		if again, err := One(got, bad); err != api.ErrNone || !same(again, got) {
			t.Error(err)
		}
	}
	// An entry is taken out again, wherever it is by then.
	in, _ := btree.Put(s, 2, b, wide(3))
	r = next(in, 2)
	for _, n := range []int{1, 2, 4, 5} {
		in, _ = btree.Put(in, 2, b, wide(n))
	}
	in = skip(in, 2, r.Lsn)
	got, err = One(in, r)
	nest := last(got, 2)
	if err != api.OK || nest.Kind != api.KNest || nest.Next != r.Prev || got.Txns[0].Next != before || entries(t, got, b) != fmt.Sprint([]api.Entry{wide(1), wide(2), wide(4), wide(5)}) {
		t.Error(nest, err, entries(t, got, b))
	}
	out, _ := btree.Cut(in, 2, b, wide(2))
	r = next(out, 2)
	got, err = One(out, r)
	nest = last(got, 2)
	if err != api.OK || nest.Kind != api.KNest || nest.Next != r.Prev || entries(t, got, b) != entries(t, in, b) {
		t.Error(nest, err)
	}
	gone, _ := btree.Cut(in, 2, b, wide(3))
	r = next(in, 2)
	gone = skip(gone, 2, r.Lsn)
	if again, err := One(gone, r); err != api.ErrNone || !same(again, gone) {
		t.Error("an error of btree.Cut", err)
	}
	// Nothing is logged for all others.
	for _, x := range []api.Rec{
		{Kind: api.KClr, Next: 5, Prev: 6}, {Kind: api.KNest, Next: 5, Prev: 6}, {Kind: api.KBegin, Next: 6, Prev: 5}, {Kind: api.KAbort, Prev: 5}, {Kind: api.KChange, How: 9, Prev: 5}, {Kind: api.KImage, Prev: 5}, {Prev: 5},
	} {
		x.Txn, x.Lsn = 2, s.Txns[0].Next
		got, err := One(s, x)
		if err != api.OK || got.Txns[0].Next != 5 || got.Txns[0].Last != s.Txns[0].Last || got.Log != s.Log {
			t.Error(x, got.Txns, err)
		}
	}
	full := put
	full.Log.Sectors = 0
	if again, err := One(full, next(put, 2)); err != api.ErrFull || !same(again, full) {
		t.Error(err)
	}
}

func TestP47_2(t *testing.T) {
	s, h, _ := heap.New(store(t, 40, 8), 2)
	s, _, _ = heap.Insert(s, 2, h, "one")
	mark := txn.Mark(s, 2)
	more, _, _ := heap.Insert(s, 2, h, "two")
	more, _ = heap.Set(more, 2, api.Rid{Page: h}, "ONE")
	got, err := To(more, 2, mark)
	if err != api.OK || records(t, got, h) != records(t, s, h) || got.Txns[0].Next != mark {
		t.Error(err, records(t, got, h))
	}
	if again, err := To(got, 2, mark); err != api.OK || !same(again, got) {
		t.Error(err)
	}
	if again, err := To(more, 2, 1<<50); err != api.OK || !same(again, more) {
		t.Error(err)
	}
	all, err := To(more, 2, -7)
	if _, used, _ := space.Used(all); err != api.OK || all.Txns[0].Next != 0 || fmt.Sprint(used) != "[0]" {
		t.Error(err, used)
	}
	if again, err := To(more, 1, 0); err != api.ErrNone || !same(again, more) {
		t.Error(err)
	}
	lost := more
	lost.Txns = []api.TxnAt{{Txn: 2, Last: 9, Next: 2}}
	if again, err := To(lost, 2, 0); err != api.ErrNone || !same(again, lost) {
		t.Error(err)
	}
	// The transaction continues.
	cont, _, err := heap.Insert(got, 2, h, "three")
	if err != api.OK || records(t, cont, h) != "[{1 0} {1 1}] [one three]" {
		t.Error(records(t, cont, h))
	}
	if back, err := Back(cont, 2); err != api.OK || len(back.Txns) != 0 {
		t.Error(err)
	}
}

func TestP47_3(t *testing.T) {
	s, h, _ := heap.New(store(t, 40, 8), 2)
	s, _ = txn.Commit(s, 2)
	s, who, _ := txn.Begin(s)
	s, _, _ = heap.Insert(s, who, h, "one")
	got, err := Back(s, who)
	if err != api.OK || len(got.Txns) != 0 || records(t, got, h) != "[] []" {
		t.Error(err)
	}
	d, l, _ := log.Force(got.Disk, got.Log)
	_, recs, _ := log.Open(d, 1, l.Sectors)
	kinds := ""
	for _, r := range recs {
		if r.Txn == who {
			kinds += fmt.Sprint(r.Kind, " ")
		}
	}
	if kinds != "1 2 6 3 7 " {
		t.Error(kinds)
	}
	if again, err := Back(s, 99); err != api.ErrNone || !same(again, s) {
		t.Error(err)
	}
	done := s
	done.Txns = []api.TxnAt{{Txn: who, Done: true}}
	if again, err := Back(done, who); err != api.ErrState || !same(again, done) {
		t.Error(err)
	}
	for n := s.Log.End/128 + 1; ; n++ {
		tight := s
		tight.Log.Sectors = n
		again, err := Back(tight, who)
		if err == api.OK {
			break
		}
		if err != api.ErrFull || !same(again, tight) {
			t.Error(n, err)
		}
	}
}

// state tells everything that a transaction may have changed.
func state(t *testing.T, s api.Store, heaps, trees []int) string {
	t.Helper()
	out := ""
	for _, h := range heaps {
		out += records(t, s, h)
	}
	for _, b := range trees {
		out += entries(t, s, b)
	}
	return out
}

// act does something at random under a transaction. Records and entries of different transactions differ.
func act(t *testing.T, r *rand.Rand, s api.Store, who int, heaps, trees []int) api.Store {
	t.Helper()
	h, b := heaps[r.Intn(len(heaps))], trees[r.Intn(len(trees))]
	key := fmt.Sprintf("%d %s", who, strings.Repeat(string(rune('a'+r.Intn(6))), 30+r.Intn(60)))
	switch r.Intn(2) {
	case 0:
		next, err := btree.Put(s, who, b, entry(key, r.Intn(3)))
		if err == api.ErrTwice {
			next, err = btree.Cut(s, who, b, entry(key, 0))
		}
		if err != api.OK && err != api.ErrNone {
			t.Fatal(err)
		}
		return next
	}
	next, _, err := heap.Insert(s, who, h, key)
	if err != api.OK {
		t.Fatal(err)
	}
	return next
}

func TestP47_4(t *testing.T) {
	r := rand.New(rand.NewSource(47))
	for range 12 {
		s := store(t, 150, 3+r.Intn(12))
		var heaps, trees []int
		for range 2 {
			var h, b int
			s, h, _ = heap.New(s, 2)
			s, b, _ = btree.New(s, 2)
			heaps, trees = append(heaps, h), append(trees, b)
		}
		s, _ = txn.Commit(s, 2)
		s, other, _ := txn.Begin(s)
		s, who, _ := txn.Begin(s)
		_, used, _ := space.Used(s)
		model := s // what there would be without the second transaction
		seed := r.Int63()
		mine := rand.New(rand.NewSource(seed))
		again := rand.New(rand.NewSource(seed))
		for range 40 {
			s = act(t, mine, s, other, heaps, trees)
			model = act(t, again, model, other, heaps, trees)
			s = act(t, r, s, who, heaps, trees)
		}
		var err api.Errno
		if r.Intn(2) == 0 {
			// An interrupted rollback is completed by continuing it.
			x, _ := txn.Find(s, who)
			s, _ = txn.Abort(s, who)
			s, err = To(s, who, x.Next/2)
			if err != api.OK {
				t.Fatal(err)
			}
			s, err = To(s, who, 0)
		} else {
			s, err = Back(s, who)
		}
		if err != api.OK {
			t.Fatal(err)
		}
		for _, b := range trees {
			if entries(t, s, b) != entries(t, model, b) {
				t.Fatal("a tree is not as it was")
			}
		}
		for _, h := range heaps {
			_, _, got, _ := heap.Scan(s, h)
			_, _, want, _ := heap.Scan(model, h)
			if len(got) != len(want) {
				t.Fatal("a heap is not as it was")
			}
		}
		if _, after, _ := space.Used(s); len(after) < len(used) {
			t.Fatal("pages are lost")
		}
	}
	// Alone, a transaction leaves everything as it was; but pages of nested actions remain.
	s, h, _ := heap.New(store(t, 60, 6), 2)
	s, b, _ := btree.New(s, 2)
	s, _, _ = heap.Insert(s, 2, h, strings.Repeat("x", 400))
	s = put(t, s, 2, b, wide(1), wide(2), wide(3), wide(4))
	s, _ = txn.Commit(s, 2)
	before := state(t, s, []int{h}, []int{b})
	s, who, _ := txn.Begin(s)
	s, _, _ = heap.Insert(s, who, h, strings.Repeat("y", 400))
	s = put(t, s, who, b, wide(5))
	s, _, _ = heap.New(s, who)
	s, err := Back(s, who)
	_, used, _ := space.Used(s)
	_, height, _ := btree.Height(s, b)
	if err != api.OK || state(t, s, []int{h}, []int{b}) != before || len(used) != 6 || height != 2 {
		t.Error(err, used, height)
	}
}

func put(t *testing.T, s api.Store, who, root int, l ...api.Entry) api.Store {
	t.Helper()
	for _, e := range l {
		var err api.Errno
		if s, err = btree.Put(s, who, root, e); err != api.OK {
			t.Fatal(err)
		}
	}
	return s
}
