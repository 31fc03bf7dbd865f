package pool

import (
	"math"
	"math/rand"
	"reflect"
	"strings"
	"testing"

	"tabellion/api"
	"tabellion/disk"
	"tabellion/log"
	"tabellion/page"
)

// store returns a store with transaction 1.
func store(t *testing.T, z api.Size) api.Store {
	t.Helper()
	d, err := disk.New(1 + z.Log + 4*z.Pages)
	if err != api.OK {
		t.Fatal(err)
	}
	p, err := New(z.Frames)
	if err != api.OK {
		t.Fatal(err)
	}
	return api.Store{Size: z, Disk: d, Log: log.New(1, z.Log), Pool: p, Txns: []api.TxnAt{{Txn: 1}}, Next: 2}
}

func small(t *testing.T, frames int) api.Store {
	return store(t, api.Size{Log: 200, Pages: 8, Frames: frames})
}

func fetch(t *testing.T, s api.Store, at int) (api.Store, string) {
	t.Helper()
	s, b, err := Get(s, at)
	if err != api.OK {
		t.Fatalf("Get(%d): %d", at, err)
	}
	return s, b
}

func put(at, slot int, rec string) api.Rec {
	return api.Rec{Kind: api.KChange, Txn: 1, Page: at, Op: api.Op{Kind: api.OPut, Slot: slot, New: rec}, How: api.UPage}
}

func edited(t *testing.T, s api.Store, r api.Rec) api.Store {
	t.Helper()
	s, err := Change(s, r)
	if err != api.OK {
		t.Fatal(err)
	}
	return s
}

func same(a, b api.Store) bool { return reflect.DeepEqual(a, b) }

// held lists the pages in the frames; -1 stands for a free one.
func held(s api.Store) []int {
	var l []int
	for _, f := range s.Pool.Frames {
		if f.Bytes == "" {
			l = append(l, -1)
		} else {
			l = append(l, f.Page)
		}
	}
	return l
}

func TestP41_1(t *testing.T) {
	for _, n := range []int{1, 64} {
		if p, err := New(n); err != api.OK || len(p.Frames) != n || p.Hand != 0 || p.Frames[0] != (api.Frame{}) {
			t.Error(n, err)
		}
	}
	for _, n := range []int{0, 65, -1, math.MaxInt} {
		if p, err := New(n); err != api.ErrArg || len(p.Frames) != 0 {
			t.Error(n, err)
		}
	}
	s, _ := fetch(t, small(t, 4), 5)
	if At(s, 5) != 0 || At(s, 0) != -1 || At(s, -1) != -1 || At(api.Store{}, 0) != -1 {
		t.Error("At")
	}
}

func TestP41_2(t *testing.T) {
	s := small(t, 2)
	for _, at := range []int{-1, 8, math.MaxInt, math.MinInt} {
		if got, b, err := Get(s, at); err != api.ErrArg || b != "" || !same(got, s) {
			t.Error(at, err)
		}
	}
	s, b := fetch(t, s, 0)
	if b != page.New(api.GFree) || s.Pool.Frames[0] != (api.Frame{Page: 0, Bytes: b, Mark: true}) {
		t.Error("zero bytes")
	}
	s, _ = fetch(t, s, 1)
	s, _ = fetch(t, s, 2)
	if !reflect.DeepEqual(held(s), []int{2, 1}) || s.Pool.Hand != 1 || s.Pool.Frames[1].Mark || !s.Pool.Frames[0].Mark {
		t.Error("the example: ", held(s), s.Pool.Hand)
	}
	s, _ = fetch(t, s, 3)
	if !reflect.DeepEqual(held(s), []int{2, 3}) || s.Pool.Hand != 0 {
		t.Error(held(s), s.Pool.Hand)
	}
	s, _ = fetch(t, s, 2)
	again, err := Pin(s, 2)
	if err != api.OK || again.Pool.Frames[0].Pins != 1 {
		t.Error(err)
	}
	again, _ = fetch(t, again, 4)
	if !reflect.DeepEqual(held(again), []int{2, 4}) || !again.Pool.Frames[0].Mark {
		t.Error("a pinned frame is skipped", held(again))
	}
	again, _ = Pin(again, 4)
	if got, b, err := Get(again, 5); err != api.ErrFull || b != "" || !same(got, again) {
		t.Error(err)
	}
	// What is on the disk must be sealed; its checksum is not in the frame.
	p, _ := page.Put(page.SetLsn(page.New(api.GHeap), 3), 0, "abc")
	s.Disk, _ = disk.WritePage(s.Disk, 1+200+4*6, page.Seal(p))
	if _, b := fetch(t, s, 6); b != p {
		t.Error("a sealed page")
	}
	bad := s
	bad.Disk, _ = disk.WritePage(s.Disk, 1+200+4*6, p)
	if got, b, err := Get(bad, 6); err != api.ErrSum || b != "" || !same(got, bad) {
		t.Error(err)
	}
	down := s
	down.Disk.Down = true
	if got, b, err := Get(down, 6); err != api.ErrDown || b != "" || !same(got, down) {
		t.Error(err)
	}
	if _, _, err := Get(down, 2); err != api.OK {
		t.Error("a page in memory:", err)
	}
	// A dirty page is flushed before its frame is taken.
	d := edited(t, small(t, 1), put(3, 0, "abc"))
	e, _ := fetch(t, d, 4)
	if e.Log.Safe != d.Log.End {
		t.Error("the log is not safe")
	}
	if _, b := fetch(t, e, 3); page.Lsn(b) != d.Txns[0].Last {
		t.Error("the page is lost")
	}
	d.Disk = disk.Arm(d.Disk, 9)
	for d.Disk.Left > 0 {
		d.Disk = disk.Arm(d.Disk, d.Disk.Left-1)
		got, b, err := Get(d, 4)
		if err != api.ErrDown || b != "" || !got.Disk.Down || held(got)[0] != 3 || got.Pool.Frames[0].Mark || got.Pool.Frames[0].Rec == 0 {
			t.Error(d.Disk.Left, err)
		}
	}
}

func TestP41_3(t *testing.T) {
	s := small(t, 2)
	if got, err := Unpin(s, 1); err != api.ErrNone || !same(got, s) {
		t.Error(err)
	}
	for _, at := range []int{-1, 8} {
		if got, err := Unpin(s, at); err != api.ErrArg || !same(got, s) {
			t.Error(err)
		}
		if got, err := Pin(s, at); err != api.ErrArg || !same(got, s) {
			t.Error(err)
		}
	}
	s, _ = Pin(s, 1)
	s, _ = Pin(s, 1)
	if f := s.Pool.Frames[0]; f.Pins != 2 || !f.Mark || f.Page != 1 {
		t.Error(f)
	}
	s, _ = Unpin(s, 1)
	s, err := Unpin(s, 1)
	if err != api.OK || s.Pool.Frames[0].Pins != 0 {
		t.Error(err)
	}
	if _, err := Unpin(s, 1); err != api.ErrNone {
		t.Error(err)
	}
	s, _ = Pin(s, 1)
	s, _ = Pin(s, 2)
	if got, err := Pin(s, 3); err != api.ErrFull || !same(got, s) {
		t.Error(err)
	}
}

func TestP41_4(t *testing.T) {
	s := small(t, 3)
	s.Txns = []api.TxnAt{{Txn: 7, Last: 5}, {Txn: 1, Last: 3, Next: 2}, {Txn: 1}}
	r := put(4, 0, "abc")
	got := edited(t, s, r)
	image := api.Rec{Kind: api.KImage, Lsn: 1, Page: 4, Op: api.Op{Kind: api.OAll, New: page.New(api.GFree)}}
	if x, err := log.Read(got.Disk, got.Log, 1); err != api.OK || !reflect.DeepEqual(x, image) {
		t.Errorf("%v %d", x, err)
	}
	lsn := got.Txns[1].Last
	logged := r
	logged.Lsn, logged.Prev = lsn, 3
	if x, err := log.Read(got.Disk, got.Log, lsn); err != api.OK || !reflect.DeepEqual(x, logged) {
		t.Errorf("%v %d", x, err)
	}
	f := got.Pool.Frames[0]
	if rec, _ := page.Get(f.Bytes, 0); rec != "abc" || page.Lsn(f.Bytes) != lsn || f.Rec != 1 || !f.Mark || f.Page != 4 || !strings.HasPrefix(f.Bytes, "\x00\x00\x00\x00") {
		t.Error(f)
	}
	if got.Txns[1] != (api.TxnAt{Txn: 1, Last: lsn, Next: lsn}) || got.Txns[0] != s.Txns[0] || got.Txns[2] != s.Txns[2] || s.Txns[1].Last != 3 {
		t.Error(got.Txns)
	}
	// A page that is dirty already gets no second image; a KClr sets Next.
	clr := api.Rec{Kind: api.KClr, Txn: 1, Page: 4, Op: api.Op{Kind: api.OCut, Slot: 0, Old: "abc"}, Next: 77}
	more := edited(t, got, clr)
	if more.Txns[1] != (api.TxnAt{Txn: 1, Last: got.Log.End + 1, Next: 77}) || more.Pool.Frames[0].Rec != 1 {
		t.Error(more.Txns)
	}
	flushed, _ := Flush(more, 4)
	if next := edited(t, flushed, put(4, 1, "z")); next.Pool.Frames[0].Rec != flushed.Log.End+1 {
		t.Error("a clean page gets an image")
	}
	full := store(t, api.Size{Log: 5, Pages: 4, Frames: 1})
	full = edited(t, full, put(2, 0, "abc")) // 590 bytes of 640
	for i, c := range []struct {
		s   api.Store
		r   api.Rec
		err api.Errno
	}{
		{s, api.Rec{Kind: api.KImage, Txn: 1, Page: 4}, api.ErrArg}, {s, api.Rec{Kind: api.KBegin, Txn: 1}, api.ErrArg}, {s, put(8, 0, "x"), api.ErrArg}, {s, put(-1, 0, "x"), api.ErrArg}, {s, api.Rec{Kind: api.KChange, Txn: 9, Page: 99}, api.ErrArg},
		{s, api.Rec{Kind: api.KChange, Txn: 9, Page: 4}, api.ErrNone}, {s, put(4, -1, "x"), api.ErrArg}, {got, put(4, 0, "x"), api.ErrArg}, {s, api.Rec{Kind: api.KChange, Txn: 1, Page: 4, Op: r.Op}, api.ErrArg}, {full, put(2, 1, strings.Repeat("x", 13)), api.ErrFull}, {full, put(1, 0, "x"), api.ErrFull},
	} {
		if got, err := Change(c.s, c.r); err != c.err || !same(got, c.s) {
			t.Errorf("%d: %d", i, err)
		}
	}
	pinned, _ := Pin(small(t, 1), 1)
	if got, err := Change(pinned, put(2, 0, "x")); err != api.ErrFull || !same(got, pinned) {
		t.Error(err)
	}
}

func TestP41_5(t *testing.T) {
	s := small(t, 3)
	for _, at := range []int{-1, 8} {
		if got, err := Flush(s, at); err != api.ErrArg || !same(got, s) {
			t.Error(err)
		}
	}
	if got, err := Flush(s, 1); err != api.OK || !same(got, s) {
		t.Error(err)
	}
	clean, _ := fetch(t, s, 1)
	if got, err := Flush(clean, 1); err != api.OK || !same(got, clean) {
		t.Error(err)
	}
	s = edited(t, edited(t, edited(t, s, put(5, 0, "five")), put(2, 0, "two")), put(5, 1, "more"))
	if d := Dirty(s); !reflect.DeepEqual(d, []api.DirtyAt{{Page: 2, Rec: s.Pool.Frames[1].Rec}, {Page: 5, Rec: 1}}) {
		t.Error(d)
	}
	if len(Dirty(api.Store{})) != 0 {
		t.Error("Dirty of nothing")
	}
	got, err := Flush(s, 5)
	bytes, _ := disk.ReadPage(got.Disk, 1+200+20)
	if err != api.OK || bytes != page.Seal(s.Pool.Frames[0].Bytes) || got.Pool.Frames[0].Rec != 0 || got.Log.Safe != s.Log.End || len(Dirty(got)) != 1 || got.Pool.Frames[0].Bytes != s.Pool.Frames[0].Bytes {
		t.Error(err)
	}
	all, err := All(s)
	if err != api.OK || len(Dirty(all)) != 0 {
		t.Error(err)
	}
	// The pages are written in increasing order, each after the log.
	need := (s.Log.End+127)/128 + 1
	for n := range need + 8 {
		armed := s
		armed.Disk = disk.Arm(s.Disk, n)
		got, err := All(armed)
		if err != api.ErrDown || !got.Disk.Down {
			t.Fatal(n, err)
		}
		two, five := got.Disk.Sectors[1+200+8], got.Disk.Sectors[1+200+20]
		zero := strings.Repeat("\x00", 128)
		if (two != zero) != (n > need) || (five != zero) != (n > need+4) || (got.Log.Safe > 0) != (n >= need) || (len(Dirty(got)) == 1) != (n >= need+4) {
			t.Errorf("after %d sectors", n)
		}
		one, err := Flush(armed, 2)
		if (err == api.OK) != (n >= need+4) || err != api.OK && err != api.ErrDown {
			t.Error(n, err, one.Disk.Left)
		}
	}
}

func TestP41_6(t *testing.T) {
	s := small(t, 2)
	image, _ := page.Put(page.SetLsn(page.New(api.GHeap), 9), 0, "abc")
	all := func(lsn, at int, p string) api.Rec {
		return api.Rec{Kind: api.KImage, Lsn: lsn, Page: at, Op: api.Op{Kind: api.OAll, New: p}}
	}
	edit := func(kind, lsn, slot int, rec string) api.Rec {
		r := put(3, slot, rec)
		r.Kind, r.Lsn = kind, lsn
		return r
	}
	for i, r := range []api.Rec{
		{Kind: api.KBegin, Lsn: 1, Page: 1}, all(1, 8, image), all(1, -1, image), all(0, 1, image), all(-4, 1, image), all(1<<40, 1, image), all(1, 1, "x"), all(1, 1, ""), edit(api.KChange, 0, 0, "x"), edit(api.KChange, 5, -1, "x"), edit(api.KClr, 5, 0, ""),
	} {
		if got, err := Redo(s, r); err != api.ErrArg || !same(got, s) {
			t.Errorf("%d: %d", i, err)
		}
	}
	// An image is not read: the page on the disk may be torn.
	torn := s
	torn.Disk, _ = disk.Write(s.Disk, 1+200+12, strings.Repeat("t", 128))
	got, err := Redo(torn, all(20, 3, page.Seal(image)))
	if err != api.OK || got.Pool.Frames[0] != (api.Frame{Page: 3, Bytes: image, Mark: true, Rec: 20}) {
		t.Error(err, got.Pool.Frames[0])
	}
	if _, err := Redo(torn, edit(api.KChange, 30, 1, "x")); err != api.ErrSum {
		t.Error(err)
	}
	more, err := Redo(got, edit(api.KChange, 30, 1, "new"))
	want, _ := page.Put(page.SetLsn(image, 30), 1, "new")
	if err != api.OK || more.Pool.Frames[0] != (api.Frame{Page: 3, Bytes: want, Mark: true, Rec: 20}) {
		t.Error(err, more.Pool.Frames[0])
	}
	if again, err := Redo(more, edit(api.KClr, 30, 1, "new")); err != api.OK || again.Pool.Frames[0] != more.Pool.Frames[0] {
		t.Error("a record that is in the page already", err)
	}
	clean, _ := Flush(more, 3)
	clean.Pool.Frames[0].Mark = false
	if again, err := Redo(clean, edit(api.KClr, 29, 2, "z")); err != api.OK || again.Pool.Frames[0].Rec != 0 || !again.Pool.Frames[0].Mark || page.Lsn(again.Pool.Frames[0].Bytes) != 30 {
		t.Error("nothing but the Get is done", err)
	}
	if again, err := Redo(clean, edit(api.KClr, 31, 2, "z")); err != api.OK || again.Pool.Frames[0].Rec != 31 || !again.Pool.Frames[0].Mark {
		t.Error(err)
	}
	if again, err := Redo(clean, all(5, 3, image)); err != api.OK || again.Pool.Frames[0].Bytes != image || again.Pool.Frames[0].Rec != 5 || !again.Pool.Frames[0].Mark {
		t.Error("an image counts even if the page is newer", err)
	}
	pinned, _ := Pin(small(t, 1), 1)
	if again, err := Redo(pinned, all(5, 3, image)); err != api.ErrFull || !same(again, pinned) {
		t.Error(err)
	}
	if again, err := Redo(pinned, all(5, 1, image)); err != api.OK || again.Pool.Frames[0].Pins != 1 {
		t.Error(err)
	}
	dirty := edited(t, small(t, 1), put(1, 0, "x"))
	dirty.Disk = disk.Arm(dirty.Disk, 0)
	if again, err := Redo(dirty, all(5, 3, image)); err != api.ErrDown || !again.Disk.Down {
		t.Error(err)
	}
}

func TestP41_7(t *testing.T) {
	r := rand.New(rand.NewSource(41))
	for range 60 {
		s := store(t, api.Size{Log: 1200, Pages: 6, Frames: 1 + r.Intn(3)})
		latest := map[int]string{}
		for range 120 {
			at, slot := r.Intn(6), r.Intn(4)
			switch r.Intn(6) {
			case 0:
				s, _ = Flush(s, at)
			case 1:
				s, _ = All(s)
			case 2:
				_, b := fetch(t, s, at)
				if old, ok := latest[at]; ok && b != old {
					t.Fatal("not the latest content")
				}
			default:
				var b string
				s, b = fetch(t, s, at)
				o := api.Op{Kind: api.OPut, Slot: slot, New: strings.Repeat("q", 1+r.Intn(50))}
				if old, ok := page.Get(b, slot); ok {
					o = api.Op{Kind: api.OCut, Slot: slot, Old: old}
				}
				next, err := Change(s, api.Rec{Kind: api.KChange, Txn: 1, Page: at, Op: o, How: api.UPage})
				if err != api.OK {
					t.Fatal(err)
				}
				s = next
				latest[at] = s.Pool.Frames[At(s, at)].Bytes
			}
			for i := range 6 {
				if p, _ := disk.ReadPage(s.Disk, 1+1200+4*i); page.Sealed(p) && page.Lsn(p) > s.Log.Safe {
					t.Fatal("a page is ahead of the log")
				}
			}
		}
		// Repeating the log yields the latest content of each page.
		d, l, err := log.Force(s.Disk, s.Log)
		if err != api.OK {
			t.Fatal(err)
		}
		opened, recs, err := log.Open(d, 1, 1200)
		if err != api.OK || opened != l {
			t.Fatal(err)
		}
		s2 := s
		s2.Disk, s2.Log = d, opened
		s2.Pool, _ = New(2)
		for _, x := range recs {
			if s2, err = Redo(s2, x); err != api.OK {
				t.Fatal(err)
			}
		}
		for at, want := range latest {
			if _, b := fetch(t, s2, at); b != want {
				t.Fatalf("page %d after repeating the log", at)
			}
		}
	}
}
