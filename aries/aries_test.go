package aries

import (
	"fmt"
	"math"
	"math/rand"
	"reflect"
	"strings"
	"testing"

	"tabellion/api"
	"tabellion/btree"
	"tabellion/ckpt"
	"tabellion/disk"
	"tabellion/heap"
	"tabellion/log"
	"tabellion/page"
	"tabellion/pool"
	"tabellion/space"
	"tabellion/txn"
)

func formatted(t *testing.T, z api.Size) api.Store {
	t.Helper()
	s, err := Format(z)
	if err != api.OK {
		t.Fatal(err)
	}
	return s
}

func open(t *testing.T, d api.Disk, z api.Size) api.Store {
	t.Helper()
	s, err := Open(disk.Start(d), z)
	if err != api.OK {
		t.Fatal(err)
	}
	return s
}

func same(a, b any) bool { return fmt.Sprint(a) == fmt.Sprint(b) }

func TestP49_1(t *testing.T) {
	for _, z := range []api.Size{
		{}, {Log: 0, Pages: 2, Frames: 4}, {Log: api.MaxLog + 1, Pages: 2, Frames: 4}, {Log: 100, Pages: 1, Frames: 4}, {Log: 100, Pages: api.MaxPages + 1, Frames: 4}, {Log: 100, Pages: 2, Frames: 3}, {Log: 100, Pages: 2, Frames: 65}, {Log: -1, Pages: math.MaxInt, Frames: math.MinInt},
	} {
		if s, err := Format(z); err != api.ErrArg || !same(s, api.Store{}) {
			t.Error(z, err)
		}
		if s, err := Open(api.Disk{}, z); err != api.ErrArg || !same(s, api.Store{}) {
			t.Error(z, err)
		}
	}
	for _, z := range []api.Size{{Log: 30, Pages: 2, Frames: 4}, {Log: api.MaxLog, Pages: api.MaxPages, Frames: 64}} {
		s := formatted(t, z)
		_, used, err := space.Used(s)
		if err != api.OK || fmt.Sprint(used) != "[0]" || len(s.Txns) != 0 || s.Next != 2 || len(s.Disk.Sectors) != 1+z.Log+4*z.Pages || len(pool.Dirty(s)) != 0 || s.Size != z || s.Log.Safe != s.Log.End || len(s.Pool.Frames) != z.Frames {
			t.Error(z, used, err)
		}
		m := ckpt.Master(s.Disk)
		if r, err := log.Read(s.Disk, s.Log, m); err != api.OK || r.Kind != api.KCheck || r.Num != 2 || len(r.Txns)+len(r.Dirty) != 0 {
			t.Error(m, r, err)
		}
	}
	if s, err := Format(api.Size{Log: 2, Pages: 2, Frames: 4}); err != api.ErrFull || !same(s, api.Store{}) {
		t.Error(err)
	}
}

func TestP49_2(t *testing.T) {
	change := func(lsn, who, at int) api.Rec { return api.Rec{Kind: api.KChange, Lsn: lsn, Txn: who, Page: at} }
	check := api.Rec{Kind: api.KCheck, Lsn: 50, Num: 9, Txns: []api.TxnAt{{Txn: 7, Last: 40, Next: 30}}, Dirty: []api.DirtyAt{{Page: 5, Rec: 11}, {Page: 9, Rec: 3}}}
	l := []api.Rec{
		{Kind: api.KBegin, Lsn: 1, Txn: 7}, change(10, 7, 2), check, {Kind: api.KBegin, Lsn: 60, Txn: 12}, change(70, 12, 7), {Kind: api.KImage, Lsn: 80, Page: 1}, {Kind: api.KClr, Lsn: 90, Txn: 7, Page: 9, Next: 4}, change(100, 12, 7),
		{Kind: api.KCommit, Lsn: 110, Txn: 12}, {Kind: api.KBegin, Lsn: 120, Txn: 3}, {Kind: api.KEnd, Lsn: 130, Txn: 12}, {Kind: api.KCheck, Lsn: 140, Num: 99}, {Kind: api.KBegin, Lsn: 150, Txn: 1 << 40},
	}
	for i, c := range []struct {
		l     []api.Rec
		from  int
		txns  []api.TxnAt
		dirty []api.DirtyAt
		next  int
	}{
		{nil, 0, nil, nil, 1}, {nil, 5, nil, nil, 1}, {l[:2], 0, []api.TxnAt{{Txn: 7, Last: 10, Next: 10}}, []api.DirtyAt{{Page: 2, Rec: 10}}, 8}, {l[:3], 50, check.Txns, check.Dirty, 9},
		{l, 50, []api.TxnAt{{Txn: 7, Last: 90, Next: 4}, {Txn: 3, Last: 120, Next: 120}, {Txn: 1 << 40, Last: 150, Next: 150}}, []api.DirtyAt{{Page: 1, Rec: 80}, {Page: 5, Rec: 11}, {Page: 7, Rec: 70}, {Page: 9, Rec: 3}}, 13},
		{l[:9], 50, []api.TxnAt{{Txn: 7, Last: 90, Next: 4}, {Txn: 12, Last: 110, Next: 100, Done: true}}, []api.DirtyAt{{Page: 1, Rec: 80}, {Page: 5, Rec: 11}, {Page: 7, Rec: 70}, {Page: 9, Rec: 3}}, 13},
		{l[:7], 51, []api.TxnAt{{Txn: 7, Last: 90, Next: 4}, {Txn: 12, Last: 70, Next: 70}}, []api.DirtyAt{{Page: 1, Rec: 80}, {Page: 2, Rec: 10}, {Page: 7, Rec: 70}, {Page: 9, Rec: 90}}, 13}, {l, 140, []api.TxnAt{{Txn: 1 << 40, Last: 150, Next: 150}}, nil, 99},
		{[]api.Rec{{Kind: api.KCheck, Lsn: 5, Num: 0}}, 5, nil, nil, 1}, {[]api.Rec{{Kind: api.KCheck, Lsn: 5, Num: -7}}, 5, nil, nil, 1}, {[]api.Rec{{Kind: api.KCheck, Lsn: 5, Num: 4}, {Kind: api.KCheck, Lsn: 5, Num: 6}}, 5, nil, nil, 4},
		{[]api.Rec{{Kind: api.KCheck, Lsn: 0, Num: 4}}, 0, nil, nil, 1}, {[]api.Rec{{Kind: api.KCheck, Lsn: -3, Num: 4}}, -3, nil, nil, 1}, {[]api.Rec{{Kind: api.KBegin, Lsn: 5, Num: 4}}, 5, nil, nil, 1},
		{[]api.Rec{{Kind: api.KCheck, Lsn: 5, Num: 1, Dirty: []api.DirtyAt{{Page: 9, Rec: 1}, {Page: 3, Rec: 2}}}, change(6, 1, 4)}, 5, []api.TxnAt{{Txn: 1, Last: 6, Next: 6}}, []api.DirtyAt{{Page: 4, Rec: 6}, {Page: 9, Rec: 1}, {Page: 3, Rec: 2}}, 1},
	} {
		txns, dirty, next := Analyse(c.l, c.from)
		if !same(txns, c.txns) || !same(dirty, c.dirty) || next != c.next {
			t.Errorf("%d: %v %v %d", i, txns, dirty, next)
		}
	}
}

func TestP49_3(t *testing.T) {
	z := api.Size{Log: 400, Pages: 12, Frames: 4}
	s := formatted(t, z)
	if _, err := Open(s.Disk, api.Size{Log: 400, Pages: 11, Frames: 4}); err != api.ErrArg {
		t.Error(err)
	}
	down := s.Disk
	down.Down = true
	if got, err := Open(down, z); err != api.ErrDown || !reflect.DeepEqual(got.Disk, down) {
		t.Error(err)
	}
	s, who, _ := txn.Begin(s)
	s, root, _ := heap.New(s, who)
	s, _, _ = heap.Insert(s, who, root, "kept")
	s, _ = txn.Commit(s, who)
	s, who, _ = txn.Begin(s)
	s, _, _ = heap.Insert(s, who, root, "lost")
	s, _ = pool.All(s)
	got := open(t, s.Disk, z)
	_, _, recs, err := heap.Scan(got, root)
	if err != api.OK || fmt.Sprint(recs) != "[kept]" || len(got.Txns) != 0 || got.Next != who+1 || len(pool.Dirty(got)) != 0 {
		t.Error(recs, err, got.Txns, got.Next)
	}
	d, l, _ := log.Force(got.Disk, got.Log)
	_, all, _ := log.Open(d, 1, l.Sectors)
	kinds := ""
	for _, r := range all {
		if r.Lsn > s.Log.End {
			kinds += fmt.Sprint(r.Kind, "/", r.Txn, " ")
		}
	}
	if kinds != "3/3 7/3 9/0 " {
		t.Error(kinds)
	}
	// A committed transaction without its end in the log is only ended.
	s, who, _ = txn.Begin(got)
	s, _, _ = heap.Insert(s, who, root, "more")
	s, _ = txn.Commit(s, who)
	got = open(t, s.Disk, z)
	if _, _, recs, _ := heap.Scan(got, root); fmt.Sprint(recs) != "[kept more]" || len(got.Txns) != 0 {
		t.Error(recs)
	}
	// A torn page is restored from its image.
	torn := s.Disk
	for at := range 4 {
		torn, _ = disk.Write(torn, 1+400+4*root+at, strings.Repeat(string(rune('a'+at)), 128))
	}
	if got := open(t, torn, z); true {
		if _, _, recs, err := heap.Scan(got, root); fmt.Sprint(recs) != "[kept more]" {
			t.Error(recs, err)
		}
	}
	// The power fails at each sector while the store is opened.
	s, who, _ = txn.Begin(s)
	s, _, _ = heap.Insert(s, who, root, "lost")
	s, _ = pool.All(s)
	for n := 0; ; n++ {
		half, err := Open(disk.Arm(s.Disk, n), z)
		if err == api.OK {
			break
		}
		if err != api.ErrDown || !half.Disk.Down {
			t.Fatal(n, err)
		}
		got := open(t, half.Disk, z)
		if _, _, recs, err := heap.Scan(got, root); fmt.Sprint(recs) != "[kept more]" {
			t.Error(n, recs, err)
		}
	}
	full := z
	full.Log = 400
	bad := s.Disk
	bad.Sectors = append([]string{}, s.Disk.Sectors...)
	bad.Sectors[1] = strings.Repeat("\x00", 128) // no log, but a page that is not sealed
	bad.Sectors[1+400] = strings.Repeat("z", 128)
	if got, err := Open(bad, full); err != api.OK || got.Log.End == 0 {
		t.Error("nothing to recover", err)
	}
}

// world is a store with heaps and trees, each of which one transaction at a time writes, and what was committed.
type world struct {
	s            api.Store
	z            api.Size
	heaps, trees []int
	committed    []string // what each heap and tree contained at the last commit
	maybe        []string // what they contain if a commit in progress came through
	who          []int    // the transactions; 0: there is none
}

func (w *world) state(t *testing.T, i int) string {
	t.Helper()
	_, _, recs, err := heap.Scan(w.s, w.heaps[i])
	if err != api.OK {
		t.Fatal(err)
	}
	_, l, err := btree.Range(w.s, w.trees[i], "", "")
	_, ok, _ := btree.Check(w.s, w.trees[i])
	if err != api.OK || !ok {
		t.Fatal(err, ok)
	}
	return fmt.Sprint(recs, l)
}

func newWorld(t *testing.T, z api.Size) *world {
	t.Helper()
	w := &world{s: formatted(t, z), z: z}
	var who int
	w.s, who, _ = txn.Begin(w.s)
	for range 2 {
		var h, b int
		w.s, h, _ = heap.New(w.s, who)
		w.s, b, _ = btree.New(w.s, who)
		w.heaps, w.trees, w.who = append(w.heaps, h), append(w.trees, b), append(w.who, 0)
	}
	var err api.Errno
	if w.s, err = txn.Commit(w.s, who); err != api.OK {
		t.Fatal(err)
	}
	for i := range w.who {
		w.committed = append(w.committed, w.state(t, i))
	}
	w.maybe = append([]string{}, w.committed...)
	return w
}

// act does something at random; it reports whether the power is still on.
func (w *world) act(t *testing.T, r *rand.Rand) bool {
	t.Helper()
	i := r.Intn(len(w.who))
	var err api.Errno
	switch r.Intn(12) {
	case 0:
		w.s, err = ckpt.Take(w.s)
	case 1:
		w.s, err = pool.Flush(w.s, r.Intn(w.z.Pages))
	case 2:
		w.s, err = pool.All(w.s)
	case 3:
		err = w.commit(t, i)
	default:
		err = w.write(t, r, i)
	}
	if err != api.OK && err != api.ErrDown {
		t.Fatal(err)
	}
	return err == api.OK
}

func (w *world) commit(t *testing.T, i int) api.Errno {
	if w.who[i] == 0 {
		return api.OK
	}
	after := ""
	if on := *w; true {
		on.s.Disk = disk.Arm(disk.Start(on.s.Disk), -1)
		after = on.state(t, i)
	}
	var err api.Errno
	w.s, err = txn.Commit(w.s, w.who[i])
	w.maybe[i] = after
	if err == api.OK {
		w.committed[i], w.who[i] = after, 0
	}
	return err
}

func (w *world) write(t *testing.T, r *rand.Rand, i int) api.Errno {
	var err api.Errno
	if w.who[i] == 0 {
		if w.s, w.who[i], err = txn.Begin(w.s); err != api.OK {
			return err
		}
	}
	key := strings.Repeat(string(rune('a'+r.Intn(26))), 20+r.Intn(70))
	switch r.Intn(4) {
	case 0:
		w.s, _, err = heap.Insert(w.s, w.who[i], w.heaps[i], key)
	case 1:
		s, rids, _, scanned := heap.Scan(w.s, w.heaps[i])
		if w.s = s; scanned != api.OK || len(rids) == 0 {
			return scanned
		}
		w.s, err = heap.Cut(w.s, w.who[i], rids[r.Intn(len(rids))])
	case 2:
		w.s, err = btree.Put(w.s, w.who[i], w.trees[i], api.Entry{Key: key, Rid: api.Rid{Page: r.Intn(3)}})
		if err == api.ErrTwice {
			err = api.OK
		}
	case 3:
		s, l, ranged := btree.Range(w.s, w.trees[i], "", "")
		if w.s = s; ranged != api.OK || len(l) == 0 {
			return ranged
		}
		w.s, err = btree.Cut(w.s, w.who[i], w.trees[i], l[r.Intn(len(l))])
	}
	return err
}

// reopen opens the store anew, maybe with losses of power in between, and checks what is there.
func (w *world) reopen(t *testing.T, r *rand.Rand) {
	t.Helper()
	d := w.s.Disk
	for r.Intn(2) == 0 {
		half, err := Open(disk.Arm(disk.Start(d), r.Intn(40)), w.z)
		if err == api.OK {
			d = half.Disk
			break
		}
		if err != api.ErrDown {
			t.Fatal(err)
		}
		d = half.Disk
	}
	w.s = open(t, d, w.z)
	for i := range w.who {
		got := w.state(t, i)
		if got != w.committed[i] && got != w.maybe[i] {
			t.Fatalf("%s, want %s or %s", got, w.committed[i], w.maybe[i])
		}
		w.committed[i], w.maybe[i], w.who[i] = got, got, 0
	}
	twice := open(t, w.s.Disk, w.z)
	_, used, _ := space.Used(w.s)
	_, again, _ := space.Used(twice)
	if len(w.s.Txns) != 0 || len(pool.Dirty(w.s)) != 0 || !same(used, again) {
		t.Fatal(w.s.Txns)
	}
	for at := range w.z.Pages {
		_, a, _ := pool.Get(w.s, at)
		_, b, _ := pool.Get(twice, at)
		if a != b || !page.Right(a) {
			t.Fatal("opening twice gives another page", at)
		}
	}
}

func TestP49_4(t *testing.T) {
	r := rand.New(rand.NewSource(49))
	for range 25 {
		w := newWorld(t, api.Size{Log: 5000, Pages: 60, Frames: 4 + r.Intn(6)})
		for range 6 {
			if r.Intn(5) > 0 {
				w.s.Disk = disk.Arm(w.s.Disk, r.Intn(60))
			}
			for range 40 {
				if !w.act(t, r) {
					break
				}
			}
			w.reopen(t, r)
		}
	}
	z := api.Size{Log: 100, Pages: 5, Frames: 5}
	s := formatted(t, z)
	if got := open(t, s.Disk, z); got.Next != s.Next || len(got.Txns) != 0 {
		t.Error("a formatted store is opened as it was")
	}
}
