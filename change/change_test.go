package change

import (
	"math/rand"
	"strings"
	"testing"

	"tabellion/api"
	"tabellion/num"
	"tabellion/page"
)

// made returns a page with records in the slots from 0 on; empty ones leave their slot free.
func made(t *testing.T, recs ...string) string {
	t.Helper()
	p := page.SetLink(page.SetLsn(page.New(api.GHeap), 33), 12)
	for i, r := range recs {
		if r == "" {
			continue
		}
		var err api.Errno
		if p, err = page.Put(p, i, r); err != api.OK {
			t.Fatal(err)
		}
	}
	return p
}

func op(kind, slot int, old, next string) api.Op {
	return api.Op{Kind: kind, Slot: slot, Old: old, New: next}
}

// TestP40_1and2 covers P40.1 and P40.2.
func TestP40_1and2(t *testing.T) {
	p := made(t, "a", "", "ccc")
	bare := page.SetLsn(p, 0)
	leaf := page.New(api.GLeaf)
	long := strings.Repeat("x", 401)
	for i, c := range []struct {
		o    api.Op
		want string
	}{
		{op(api.OPut, 1, "", "b"), made(t, "a", "b", "ccc")}, {op(api.OPut, 1, "x", "b"), ""}, {op(api.OPut, 0, "", "b"), ""}, {op(api.OPut, 1, "", ""), ""}, {op(api.OPut, -1, "", "b"), ""}, {op(api.OPut, 3, "", long), ""},
		{op(api.OCut, 0, "a", ""), made(t, "", "", "ccc")}, {op(api.OCut, 0, "b", ""), ""}, {op(api.OCut, 0, "a", "b"), ""}, {op(api.OCut, 1, "", ""), ""}, {op(api.OCut, 9, "", ""), ""},
		{op(api.OSet, 0, "a", "zz"), made(t, "zz", "", "ccc")}, {op(api.OSet, 0, "b", "zz"), ""}, {op(api.OSet, 1, "", "zz"), ""}, {op(api.OSet, 0, "a", ""), ""}, {op(api.OSet, 0, "a", long), ""}, {op(api.OSet, 0, "a", "a"), p},
		{op(api.OAdd, 0, "", "b"), made(t, "b", "a", "", "ccc")}, {op(api.OAdd, 0, "x", "b"), ""}, {op(api.OAdd, 0, "", ""), ""}, {op(api.OAdd, -1, "", "b"), ""}, {op(api.OAdd, 4, "", "b"), made(t, "a", "", "ccc", "", "b")},
		{op(api.ODel, 0, "a", ""), made(t, "", "ccc")}, {op(api.ODel, 0, "b", ""), ""}, {op(api.ODel, 0, "a", "b"), ""}, {op(api.ODel, 1, "", ""), ""},
		{op(api.OLink, 0, "12", "0"), page.SetLink(p, 0)}, {op(api.OLink, 0, "12", "16777215"), page.SetLink(p, 1<<24-1)}, {op(api.OLink, 0, "12", "16777216"), ""}, {op(api.OLink, 0, "12", "-1"), ""}, {op(api.OLink, 0, "12", "07"), ""}, {op(api.OLink, 0, "12", ""), ""}, {op(api.OLink, 0, "012", "7"), ""}, {op(api.OLink, 0, "13", "7"), ""}, {op(api.OLink, 1, "12", "7"), ""},
		{op(api.OAll, 0, bare, leaf), page.SetLsn(leaf, 33)}, {op(api.OAll, 1, bare, leaf), ""}, {op(api.OAll, 0, p, leaf), ""}, {op(api.OAll, 0, bare, page.SetLsn(leaf, 1)), ""}, {op(api.OAll, 0, bare, page.Seal(leaf)), ""}, {op(api.OAll, 0, bare, ""), ""}, {op(api.OAll, 0, "", leaf), ""}, {op(api.OAll, 0, page.Seal(bare), leaf), ""}, {op(api.OAll, 0, bare, bare), p},
		{op(0, 0, "", "b"), ""}, {op(8, 0, "", "b"), ""}, {op(-1, 0, "a", "b"), ""},
	} {
		for _, page := range []string{p, page.Seal(p)} {
			got, err := Do(page, c.o)
			if got != c.want || (err == api.OK) != (c.want != "") || err != api.OK && err != api.ErrArg || Right(page, c.o) != (c.want != "") {
				t.Errorf("%d: %d %q", i, err, got)
			}
		}
	}
	for _, bad := range []string{"", "x", strings.Repeat("\x00", 512)} {
		for kind := range 9 {
			if Right(bad, op(kind, 0, "", "x")) || Right(bad, op(kind, 0, bad, leaf)) {
				t.Errorf("a change of kind %d of %q", kind, bad)
			}
		}
	}
	if !Right(page.New(api.GHeap), op(api.OPut, 0, "", "ab")) || Back(op(api.OPut, 0, "", "ab")) != op(api.OCut, 0, "ab", "") {
		t.Error("the example")
	}
}

func TestP40_3(t *testing.T) {
	for kind, want := range map[int]int{
		api.OPut: api.OCut, api.OCut: api.OPut, api.OAdd: api.ODel, api.ODel: api.OAdd, api.OSet: api.OSet, api.OLink: api.OLink, api.OAll: api.OAll, 0: 0, 8: 8, -1: -1,
	} {
		if got := Back(op(kind, 5, "old", "new")); got != op(want, 5, "new", "old") {
			t.Errorf("Back of kind %d: %v", kind, got)
		}
	}
}

func TestP40_4(t *testing.T) {
	r := rand.New(rand.NewSource(40))
	p := made(t, "a", "", "ccc")
	applied := 0
	for range 30000 {
		slot, x := r.Intn(6), strings.Repeat("y", r.Intn(120))
		old, _ := page.Get(p, slot)
		o := []api.Op{
			op(api.OPut, slot, "", x), op(api.OCut, slot, old, ""), op(api.OSet, slot, old, x), op(api.OAdd, slot, "", x), op(api.ODel, slot, old, ""),
			op(api.OLink, 0, num.Text(page.Link(p)), num.Text(r.Intn(99))), op(api.OAll, 0, page.SetLsn(p, 0), page.SetLsn(made(t, x, "z"), 0)),
		}[r.Intn(7)]
		if Back(Back(o)) != o {
			t.Fatal("Back of Back")
		}
		next, err := Do(p, o)
		if err != api.OK {
			continue
		}
		applied++
		if !Right(next, Back(o)) || page.Lsn(next) != page.Lsn(p) || !strings.HasPrefix(next, "\x00\x00\x00\x00") {
			t.Fatalf("%v cannot be undone", o)
		}
		if back, _ := Do(next, Back(o)); back != p {
			t.Fatalf("%v is not undone", o)
		}
		p = next
	}
	if applied < 5000 {
		t.Error(applied)
	}
}
