package space

import (
	"fmt"
	"math"
	"math/rand"
	"slices"
	"strings"
	"testing"

	"tabellion/api"
	"tabellion/disk"
	"tabellion/log"
	"tabellion/page"
	"tabellion/pool"
	"tabellion/txn"
)

// store returns a store with transaction 1.
func store(t *testing.T, pages, frames int) api.Store {
	t.Helper()
	const sectors = 3000
	d, err := disk.New(1 + sectors + 4*pages)
	if err != api.OK {
		t.Fatal(err)
	}
	p, _ := pool.New(frames)
	s, _, err := txn.Begin(api.Store{Size: api.Size{Log: sectors, Pages: pages, Frames: frames}, Disk: d, Log: log.New(1, sectors), Pool: p, Next: 1})
	if err != api.OK {
		t.Fatal(err)
	}
	return s
}

func formatted(t *testing.T, pages, frames int) api.Store {
	t.Helper()
	s, err := Format(store(t, pages, frames), 1)
	if err != api.OK {
		t.Fatal(err)
	}
	return s
}

func same(a, b any) bool { return fmt.Sprint(a) == fmt.Sprint(b) }

func used(t *testing.T, s api.Store) string {
	t.Helper()
	_, l, err := Used(s)
	if err != api.OK {
		t.Fatal(err)
	}
	return fmt.Sprint(l)
}

func TestP43_1(t *testing.T) {
	for _, n := range []int{1, 8, 9, 2000} {
		s := store(t, n, 4)
		got, err := Format(s, 1)
		if err != api.OK || used(t, got) != "[0]" {
			t.Error(n, err)
		}
		_, p, _ := pool.Get(got, 0)
		if b, _ := page.Get(p, 0); page.Kind(p) != api.GSpace || page.Slots(p) != 1 || b != "\x01"+strings.Repeat("\x00", (n+7)/8-1) {
			t.Errorf("%d pages: %q", n, b)
		}
		r, _ := log.Read(got.Disk, got.Log, got.Txns[0].Last)
		if r.Kind != api.KChange || r.How != api.UPage || r.Txn != 1 || r.Op.Kind != api.OAll || r.Op.Old != page.New(api.GFree) || r.Op.New != page.SetLsn(p, 0) {
			t.Errorf("%v", r)
		}
	}
	for _, n := range []int{0, -1, 2001, math.MaxInt} {
		s := store(t, 4, 4)
		s.Size.Pages = n
		if got, err := Format(s, 1); err != api.ErrArg || !same(got, s) {
			t.Error(n, err)
		}
	}
	s := store(t, 4, 4)
	if got, err := Format(s, 2); err != api.ErrNone || !same(got, s) {
		t.Error(err)
	}
	s.Disk.Down = true
	if got, err := Format(s, 1); err != api.ErrDown || !same(got, s) {
		t.Error(err)
	}
	// A page that was changed before is replaced as it is.
	again, err := Format(formatted(t, 4, 4), 1)
	if err != api.OK || used(t, again) != "[0]" {
		t.Error(err)
	}
}

func TestP43_2(t *testing.T) {
	s := formatted(t, 4, 4)
	for i, kind := range []int{api.GHeap, api.GLeaf, api.GNode} {
		next, at, err := Alloc(s, 1, kind)
		if err != api.OK || at != i+1 {
			t.Fatal(at, err)
		}
		_, p, _ := pool.Get(next, at)
		if page.SetLsn(p, 0) != page.New(kind) {
			t.Errorf("%q", p)
		}
		r, _ := log.Read(next.Disk, next.Log, next.Txns[0].Last)
		before, _ := log.Read(next.Disk, next.Log, r.Prev)
		if r.Op.Kind != api.OAll || r.Page != at || before.Op.Kind != api.OSet || before.Page != 0 || before.Op.Slot != 0 || before.Op.Old != string([]byte{1<<at - 1}) || before.Op.New != string([]byte{1<<(at+1) - 1}) {
			t.Errorf("%v, %v", before, r)
		}
		s = next
	}
	if got, at, err := Alloc(s, 1, api.GHeap); err != api.ErrFull || at != 0 || !same(got, s) {
		t.Error(at, err)
	}
	for _, kind := range []int{api.GFree, api.GSpace, 5, -1} {
		if got, at, err := Alloc(s, 1, kind); err != api.ErrArg || at != 0 || !same(got, s) {
			t.Error(at, err)
		}
	}
	raw := store(t, 4, 4)
	if got, at, err := Alloc(raw, 1, api.GHeap); err != api.ErrArg || at != 0 || !same(got, raw) {
		t.Error(at, err)
	}
	fresh := formatted(t, 4, 4)
	if got, _, err := Alloc(fresh, 9, api.GHeap); err != api.ErrNone || !same(got, fresh) {
		t.Error(err)
	}
	fresh.Log.Sectors = (fresh.Log.End + 60) / 128
	if got, _, err := Alloc(fresh, 1, api.GHeap); err != api.ErrFull || !same(got, fresh) {
		t.Error(err)
	}
	// With one frame, page 0 must be written before the new page can be read.
	armed := formatted(t, 4, 1)
	armed.Disk = disk.Arm(armed.Disk, 3)
	if got, at, err := Alloc(armed, 1, api.GHeap); err != api.ErrDown || at != 0 || !got.Disk.Down || got.Log.End == armed.Log.End {
		t.Error(at, err)
	}
}

func TestP43_3(t *testing.T) {
	s := formatted(t, 9, 4)
	for range 3 {
		s, _, _ = Alloc(s, 1, api.GLeaf)
	}
	got, err := Free(s, 1, 2)
	if err != api.OK || used(t, got) != "[0 1 3]" {
		t.Error(err)
	}
	_, p, _ := pool.Get(got, 2)
	if page.SetLsn(p, 0) != page.New(api.GFree) {
		t.Errorf("%q", p)
	}
	for at, want := range map[int]api.Errno{0: api.ErrArg, -1: api.ErrArg, 9: api.ErrArg, math.MaxInt: api.ErrArg, 2: api.ErrNone, 8: api.ErrNone} {
		if again, err := Free(got, 1, at); err != want || !same(again, got) {
			t.Error(at, err)
		}
	}
	raw := store(t, 4, 4)
	if again, err := Free(raw, 1, 99); err != api.ErrArg || !same(again, raw) {
		t.Error(err)
	}
	if again, err := Free(s, 7, 1); err != api.ErrNone || !same(again, s) {
		t.Error(err)
	}
	if next, at, err := Alloc(got, 1, api.GHeap); at != 2 || err != api.OK || used(t, next) != "[0 1 2 3]" {
		t.Error(at, err)
	}
}

func TestP43_4(t *testing.T) {
	raw := store(t, 4, 4)
	if got, l, err := Used(raw); err != api.ErrArg || len(l) != 0 || !same(got, raw) {
		t.Error(err)
	}
	raw.Disk.Down = true
	if _, l, err := Used(raw); err != api.ErrDown || len(l) != 0 {
		t.Error(err)
	}
	s := formatted(t, 4, 4)
	s.Size.Pages = 9
	if _, _, err := Used(s); err != api.ErrArg {
		t.Error("a bitmap of another size:", err)
	}
	s, _, _ = Alloc(formatted(t, 30, 4), 1, api.GNode)
	s, _, _ = Alloc(s, 1, api.GNode)
	if used(t, s) != "[0 1 2]" {
		t.Error(used(t, s))
	}
}

func TestP43_5(t *testing.T) {
	r := rand.New(rand.NewSource(43))
	for range 30 {
		n := 2 + r.Intn(20)
		s := formatted(t, n, 1+r.Intn(3))
		model := []int{0}
		for range 60 {
			if r.Intn(5) < 3 {
				kind := api.GHeap + r.Intn(3)
				next, at, err := Alloc(s, 1, kind)
				lowest := 1
				for slices.Contains(model, lowest) {
					lowest++
				}
				if lowest == n {
					if err != api.ErrFull {
						t.Fatal(err)
					}
					continue
				}
				_, p, _ := pool.Get(next, at)
				if err != api.OK || at != lowest || page.Kind(p) != kind || page.Slots(p) != 0 {
					t.Fatal(at, lowest, err)
				}
				s, model = next, append(model, at)
				continue
			}
			at := r.Intn(n)
			next, err := Free(s, 1, at)
			i := slices.Index(model, at)
			if (err == api.OK) != (i > 0 && at > 0) {
				t.Fatal(at, err)
			}
			if err == api.OK {
				s, model = next, slices.Delete(model, i, i+1)
			}
		}
		slices.Sort(model)
		if used(t, s) != fmt.Sprint(model) {
			t.Fatal(used(t, s), model)
		}
	}
}
