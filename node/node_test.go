package node

import (
	"fmt"
	"math"
	"math/rand"
	"slices"
	"strings"
	"testing"

	"tabellion/api"
	"tabellion/page"
)

func entry(key string, at, slot int) api.Entry {
	return api.Entry{Key: key, Rid: api.Rid{Page: at, Slot: slot}}
}

// made returns a page with these records.
func made(t *testing.T, kind int, recs ...string) string {
	t.Helper()
	p := page.New(kind)
	for i, r := range recs {
		var err api.Errno
		if p, err = page.Put(p, i, r); err != api.OK {
			t.Fatal(err)
		}
	}
	return p
}

func leaf(t *testing.T, keys ...string) string {
	t.Helper()
	var recs []string
	for _, k := range keys {
		recs = append(recs, PutEntry(entry(k, 1, 2)))
	}
	return made(t, api.GLeaf, recs...)
}

func node(t *testing.T, keys ...string) string {
	t.Helper()
	var recs []string
	for i, k := range keys {
		recs = append(recs, PutChild(entry(k, 1, 2), 10+i))
	}
	return made(t, api.GNode, recs...)
}

var long = strings.Repeat("k", 100)

func TestP45_1(t *testing.T) {
	ladder := []api.Entry{entry("", -5, 9), entry("", 0, 0), entry("", 0, 1), entry("", 1, 0), entry("a", 0, 0), entry("aa", 0, 0), entry("b", 0, 0), entry("b", 2, 9), entry("b", 3, 1), entry("\xff", 0, 0)}
	for i, a := range ladder {
		for j, b := range ladder {
			if Less(a, b) != (i < j) {
				t.Errorf("Less(%v, %v)", a, b)
			}
		}
	}
	if PutEntry(entry("k", 9, 2)) != "\x00\x00\x09\x00\x02k" || PutEntry(entry("", 1<<24-1, 1<<16-1)) != "\xff\xff\xff\xff\xff" || PutChild(entry("k", 9, 2), 258) != "\x00\x01\x02\x00\x00\x09\x00\x02k" {
		t.Error("PutEntry, PutChild")
	}
	for _, e := range []api.Entry{entry(long+"k", 0, 0), entry("", 1<<24, 0), entry("", -1, 0), entry("", 0, 1<<16), entry("", 0, -1), entry("", math.MaxInt, 0)} {
		if PutEntry(e) != "" || PutChild(e, 0) != "" {
			t.Error(e)
		}
	}
	for _, n := range []int{-1, 1 << 24, math.MinInt} {
		if PutChild(entry("", 0, 0), n) != "" {
			t.Error(n)
		}
	}
	for _, e := range []api.Entry{entry("", 0, 0), entry(long, 1<<24-1, 1<<16-1), entry("\x00", 5, 6)} {
		if got, ok := GetEntry(PutEntry(e)); !ok || got != e {
			t.Error(got, ok)
		}
		if got, at, ok := GetChild(PutChild(e, 1<<24-1)); !ok || got != e || at != 1<<24-1 {
			t.Error(got, at, ok)
		}
	}
	for _, s := range []string{"", "abcd", strings.Repeat("x", 106)} {
		if e, ok := GetEntry(s); ok || e != (api.Entry{}) {
			t.Error(e)
		}
	}
	for _, s := range []string{"", "ab", "abc", "abcdefg", strings.Repeat("x", 109)} {
		if e, at, ok := GetChild(s); ok || at != 0 || e != (api.Entry{}) {
			t.Error(e, at)
		}
	}
}

func TestP45_2(t *testing.T) {
	free, _ := page.Cut(leaf(t, "a", "b", "c"), 1)
	for i, c := range []struct {
		p       string
		right   bool
		entries string
		kids    string
	}{
		{leaf(t), true, "[]", "[]"}, {leaf(t, "a", "b"), true, "[{a {1 2}} {b {1 2}}]", "[]"}, {leaf(t, "b", "a"), false, "[]", "[]"}, {leaf(t, "a", "a"), false, "[]", "[]"}, {free, false, "[]", "[]"}, {node(t), false, "[]", "[]"}, {node(t, "x"), true, "[{x {1 2}}]", "[10]"},
		{node(t, "z", "a", "b"), true, "[{z {1 2}} {a {1 2}} {b {1 2}}]", "[10 11 12]"}, {node(t, "", "b", "a"), false, "[]", "[]"}, {node(t, "a", "a", "b"), true, "[{a {1 2}} {a {1 2}} {b {1 2}}]", "[10 11 12]"}, {node(t, "a", "b", "b"), false, "[]", "[]"},
		{made(t, api.GHeap, PutEntry(entry("a", 1, 1))), false, "[]", "[]"}, {made(t, api.GLeaf, "abcd"), false, "[]", "[]"}, {made(t, api.GNode, "abcdefg"), false, "[]", "[]"}, {made(t, api.GLeaf, strings.Repeat("x", 106)), false, "[]", "[]"}, {"", false, "[]", "[]"}, {leaf(t, "a")[1:], false, "[]", "[]"},
		{page.SetLink(page.SetLsn(leaf(t, "a"), 7), 8), true, "[{a {1 2}}]", "[]"},
	} {
		if Right(c.p) != c.right || fmt.Sprint(Entries(c.p)) != c.entries || fmt.Sprint(Children(c.p)) != c.kids {
			t.Errorf("%d: %v %v %v", i, Right(c.p), Entries(c.p), Children(c.p))
		}
	}
}

func TestP45_3(t *testing.T) {
	l := leaf(t, "a", "c", "e")
	n := node(t, "x", "c", "e")
	for _, c := range []struct {
		p  string
		e  api.Entry
		at int
		ok bool
	}{
		{l, entry("c", 1, 2), 1, true}, {l, entry("d", 1, 2), 2, false}, {l, entry("", 0, 0), 0, false}, {l, entry("z", 0, 0), 3, false}, {l, entry("c", 1, 1), 1, false}, {l, entry("c", 1, 3), 2, false}, {leaf(t), entry("c", 1, 3), 0, false},
		{n, entry("a", 0, 0), 0, true}, {n, entry("z", 0, 0), 2, true}, {n, entry("c", 1, 2), 1, true}, {n, entry("c", 1, 1), 0, true}, {n, entry("d", 1, 2), 1, true}, {n, entry("e", 9, 9), 2, true}, {node(t, "x"), entry("a", 0, 0), 0, true}, {page.New(api.GHeap), entry("a", 0, 0), 0, false}, {"", entry("a", 0, 0), 0, false},
	} {
		if at, ok := Find(c.p, c.e); at != c.at || ok != c.ok {
			t.Errorf("Find %v: %d %v", c.e, at, ok)
		}
	}
}

func TestP45_4(t *testing.T) {
	p := page.SetLink(page.SetLsn(leaf(t, "a", "b", "c", "d"), 7), 8)
	l, r, e, ok := Split(page.Seal(p))
	if !ok || e != entry("c", 1, 2) || l != page.SetLink(page.SetLsn(leaf(t, "a", "b"), 7), 8) || r != page.SetLink(leaf(t, "c", "d"), 8) {
		t.Error(e, ok)
	}
	for i, c := range []struct {
		p string
		k int
	}{
		{leaf(t, "a", "b", "c"), 2}, {leaf(t, "a", "b"), 1}, {leaf(t, "a", "b", long), 2}, {leaf(t, long, "m", "n"), 1}, {leaf(t, "a", "b", "c", long), 3}, {node(t, "z", "a", "b", "c"), 2}, {node(t, long, "a"), 1},
	} {
		l, r, e, ok := Split(c.p)
		all := Entries(c.p)
		if !ok || e != all[c.k] || !slices.Equal(Entries(l), all[:c.k]) || !slices.Equal(Entries(r), all[c.k:]) || page.Kind(l) != page.Kind(c.p) || page.Kind(r) != page.Kind(c.p) {
			t.Errorf("%d: %v %v", i, Entries(l), Entries(r))
		}
	}
	for _, p := range []string{"", leaf(t), leaf(t, "a"), node(t, "a"), leaf(t, "b", "a"), page.New(api.GHeap)} {
		if l, r, e, ok := Split(p); l != "" || r != "" || e != (api.Entry{}) || ok {
			t.Errorf("%q", p)
		}
	}
}

func TestP45_5(t *testing.T) {
	r := rand.New(rand.NewSource(45))
	random := func() api.Entry {
		return entry(strings.Repeat("k", r.Intn(3)*r.Intn(40)), r.Intn(3), r.Intn(3))
	}
	for range 3000 {
		a, b := random(), random()
		if a == b && (Less(a, b) || Less(b, a)) || a != b && Less(a, b) == Less(b, a) {
			t.Fatal(a, b)
		}
		kind := api.GLeaf + r.Intn(2)
		p := page.New(kind)
		for range 40 {
			e := random()
			at, there := Find(p, e)
			rec := PutEntry(e)
			if kind == api.GNode {
				rec = PutChild(e, r.Intn(99))
				es := Entries(p)
				there = slices.Contains(es[min(1, len(es)):], e)
				at = min(at+1, len(es))
			}
			if there {
				continue
			}
			if next, err := page.Add(p, at, rec); err == api.OK {
				p = next
			}
		}
		if !Right(p) {
			t.Fatalf("%v", Entries(p))
		}
		l, m, e, ok := Split(p)
		if page.Slots(p) < 2 {
			continue
		}
		if !ok || !Right(l) || !Right(m) || !slices.Equal(append(Entries(l), Entries(m)...), Entries(p)) || !slices.Equal(append(Children(l), Children(m)...), Children(p)) || Entries(m)[0] != e {
			t.Fatalf("%v", Entries(p))
		}
	}
}
