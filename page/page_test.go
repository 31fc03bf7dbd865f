package page

import (
	"math"
	"math/rand"
	"slices"
	"strings"
	"testing"

	"tabellion/api"
	"tabellion/octet"
)

func rec(n int) string { return strings.Repeat("r", n) }

// with puts records into the slots from 0 on; empty ones leave their slot free.
func with(t *testing.T, kind int, recs ...string) string {
	t.Helper()
	p := New(kind)
	for i, r := range recs {
		if r == "" {
			continue
		}
		var err api.Errno
		if p, err = Put(p, i, r); err != api.OK {
			t.Fatal(err)
		}
	}
	return p
}

// patch returns p with a byte changed.
func patch(p string, at int, b byte) string {
	return p[:at] + string([]byte{b}) + p[at+1:]
}

func TestP37_1(t *testing.T) {
	for kind := api.GFree; kind <= api.GNode; kind++ {
		want := "\x00\x00\x00\x00\x00\x00\x00\x00\x00\x00" + string([]byte{byte(kind)}) + "\x00\x00\x00\x00\x00\x00\x02\x00" + strings.Repeat("\x00", 493)
		if p := New(kind); p != want || !Right(p) || Kind(p) != kind || Lsn(p) != 0 || Link(p) != 0 || Slots(p) != 0 {
			t.Errorf("New(%d) = %q", kind, p)
		}
	}
	for _, kind := range []int{-1, 5, math.MaxInt, math.MinInt} {
		if New(kind) != "" {
			t.Errorf("New(%d)", kind)
		}
	}
	good := with(t, api.GHeap, "abc", "", "de")
	if good[atSlots:atSlots+12] != "\x01\xfd\x00\x03\x00\x00\x00\x00\x01\xfb\x00\x02" || good[507:] != "deabc" || good[atCount:atSlots] != "\x00\x03\x01\xfb" || !Right(good) {
		t.Errorf("%q", good)
	}
	wrong := []string{
		"", good[1:], good + "\x00", patch(good, 10, 5), patch(good, 11, 1), patch(good, 16, 2), patch(good, 16, 4), patch(good, 16, 200), patch(good, 15, 1), patch(good, 18, 0xfa), patch(good, 18, 0xfc), patch(good, 17, 0), patch(good, 17, 2),
		patch(good, 19, 0), patch(good, 20, 0xfc), patch(good, 22, 2), patch(good, 22, 0), patch(good, 24, 1), patch(good, 26, 1), patch(good, 28, 0xfa), patch(good, 30, 3), patch(good, 31, 1), patch(good, 506, 1), patch(New(api.GHeap), 16, 1), patch(New(api.GHeap), 17, 1), patch(New(api.GHeap), 511, 1),
		strings.Repeat("\x00", 512),
	}
	long := []byte(New(api.GHeap)) // a record of 401 bytes
	copy(long[15:], "\x00\x01\x00\x6f\x00\x6f\x01\x91")
	wrong = append(wrong, string(long))
	for i, p := range wrong {
		if Right(p) || Kind(p) != 0 || Lsn(p) != 0 || Link(p) != 0 || Slots(p) != 0 || Room(p) != 0 || Free(p) != 0 || Sealed(p) || SetLsn(p, 1) != "" || SetLink(p, 1) != "" || Seal(p) != "" {
			t.Errorf("%d is accepted", i)
		}
		if s, ok := Get(p, 0); s != "" || ok {
			t.Errorf("%d: Get", i)
		}
		for _, f := range []func() (string, api.Errno){
			func() (string, api.Errno) { return Put(p, 1, "x") }, func() (string, api.Errno) { return Cut(p, 0) }, func() (string, api.Errno) { return Set(p, 0, "x") },
			func() (string, api.Errno) { return Add(p, 0, "x") }, func() (string, api.Errno) { return Del(p, 9) },
		} {
			if s, err := f(); s != "" || err != api.ErrArg {
				t.Errorf("%d: %d", i, err)
			}
		}
	}
	for at := range 10 {
		if p := patch(good, at, 77); !Right(p) {
			t.Errorf("byte %d may have any value", at)
		}
	}
}

func TestP37_2(t *testing.T) {
	p := with(t, api.GLeaf, "a", "", "c")
	p = SetLink(SetLsn(p, 1<<48-1), 1<<24-1)
	if Kind(p) != api.GLeaf || Lsn(p) != 1<<48-1 || Link(p) != 1<<24-1 || Slots(p) != 3 {
		t.Error(Kind(p), Lsn(p), Link(p), Slots(p))
	}
	for slot, want := range map[int]string{0: "a", 1: "", 2: "c", 3: "", -1: "", math.MaxInt: "", math.MinInt: ""} {
		if got, ok := Get(p, slot); got != want || ok != (want != "") {
			t.Errorf("Get(%d) = %q %v", slot, got, ok)
		}
	}
	for _, n := range []int{-1, 1 << 48, math.MinInt} {
		if SetLsn(p, n) != "" || SetLink(p, n) != "" {
			t.Error(n)
		}
	}
	if SetLink(p, 1<<24) != "" {
		t.Error("a link that is too great")
	}
	sealed := Seal(p)
	if sealed != octet.Seal(p[4:]) || !Sealed(sealed) || Sealed(p) || Sealed(patch(sealed, 0, sealed[0]+1)) || Sealed(patch(sealed, 9, sealed[9]+1)) || Sealed(octet.Seal("x")) {
		t.Error("Seal")
	}
	zero := func(s string) bool { return strings.HasPrefix(s, "\x00\x00\x00\x00") && len(s) == 512 }
	put, _ := Put(sealed, 1, "b")
	cut, _ := Cut(sealed, 0)
	set, _ := Set(sealed, 0, "z")
	add, _ := Add(sealed, 0, "z")
	del, _ := Del(sealed, 0)
	for i, s := range []string{SetLsn(sealed, 5), SetLink(sealed, 5), put, cut, set, add, del} {
		if !zero(s) || i > 0 && Lsn(s) != 1<<48-1 || i != 1 && Link(s) != 1<<24-1 || Kind(s) != api.GLeaf {
			t.Errorf("%d: %q", i, s)
		}
	}
	if Seal(Seal(p)) != sealed || Seal(patch(p, 2, 9)) != sealed {
		t.Error("the old checksum does not matter")
	}
}

func TestP37_3(t *testing.T) {
	for i, c := range []struct {
		p          string
		free, room int
	}{
		{New(api.GHeap), 0, 400}, {with(t, 2, "", "ab"), 0, 400}, {with(t, 2, "ab"), 1, 400}, {with(t, 2, rec(100), rec(100), rec(100)), 3, 512 - 19 - 16 - 300}, {with(t, 2, rec(100), "", rec(100), rec(100)), 1, 512 - 19 - 16 - 300},
		{with(t, 2, rec(400), rec(85)), 2, 0}, {with(t, 2, rec(400), rec(80)), 2, 1}, {with(t, 2, rec(400), rec(81)), 2, 0}, {with(t, 2, "", rec(400), rec(81)), 0, 0}, {with(t, 2, "", rec(400), rec(80)), 0, 1},
	} {
		if Free(c.p) != c.free || Room(c.p) != c.room {
			t.Errorf("%d: %d %d, want %d %d", i, Free(c.p), Room(c.p), c.free, c.room)
		}
	}
	p := with(t, 2, "", "ab")
	if Slots(p) != 2 || p[atBegin:atSlots] != "\x01\xfe" {
		t.Error("the example")
	}
}

func TestP37_4(t *testing.T) {
	p := with(t, 2, "a", "", "ccc")
	for i, c := range []struct {
		f   func() (string, api.Errno)
		err api.Errno
	}{
		{func() (string, api.Errno) { return Put(p, 0, "x") }, api.ErrArg}, {func() (string, api.Errno) { return Put(p, -1, "x") }, api.ErrArg}, {func() (string, api.Errno) { return Put(p, 1, "") }, api.ErrArg}, {func() (string, api.Errno) { return Put(p, 1, rec(401)) }, api.ErrArg},
		{func() (string, api.Errno) { return Put(p, math.MaxInt, "x") }, api.ErrFull}, {func() (string, api.Errno) { return Put(p, 122, "x") }, api.ErrFull}, {func() (string, api.Errno) { return Put(p, 2, rec(401)) }, api.ErrArg},
		{func() (string, api.Errno) { return Cut(p, 1) }, api.ErrNone}, {func() (string, api.Errno) { return Cut(p, 3) }, api.ErrNone}, {func() (string, api.Errno) { return Cut(p, -1) }, api.ErrNone},
		{func() (string, api.Errno) { return Set(p, 1, "x") }, api.ErrNone}, {func() (string, api.Errno) { return Set(p, 1, "") }, api.ErrArg}, {func() (string, api.Errno) { return Set(p, 0, rec(401)) }, api.ErrArg}, {func() (string, api.Errno) { return Set(p, -1, "x") }, api.ErrNone},
		{func() (string, api.Errno) { return Set(with(t, 2, rec(200), rec(200)), 0, rec(300)) }, api.ErrFull}, {func() (string, api.Errno) { return Put(with(t, 2, rec(400)), 1, rec(86)) }, api.ErrFull},
	} {
		if s, err := c.f(); s != "" || err != c.err {
			t.Errorf("%d: %d", i, err)
		}
	}
	// 19 bytes, four for each of so many slots, and one for the record.
	if far, err := Put(New(2), (512-19-1)/4-1, "x"); err != api.OK || Slots(far) != 123 || Free(far) != 0 {
		t.Error(err, Slots(far))
	}
	if _, err := Put(New(2), 123, "x"); err != api.ErrFull {
		t.Error(err)
	}
	if full, err := Put(with(t, 2, rec(400)), 1, rec(85)); err != api.OK || Room(full) != 0 {
		t.Error(err)
	}
	if got, _ := Cut(p, 2); got != with(t, 2, "a") {
		t.Error("free slots at the end are not counted")
	}
	if got, _ := Set(p, 0, "zz"); got != with(t, 2, "zz", "", "ccc") {
		t.Error("Set")
	}
}

func TestP37_5(t *testing.T) {
	p := with(t, 2, "a", "", "ccc")
	for at, want := range map[int]string{0: with(t, 2, "x", "a", "", "ccc"), 1: with(t, 2, "a", "x", "", "ccc"), 3: with(t, 2, "a", "", "ccc", "x"), 5: with(t, 2, "a", "", "ccc", "", "", "x")} {
		if got, err := Add(p, at, "x"); got != want || err != api.OK {
			t.Errorf("Add at %d: %d", at, err)
		}
	}
	for at, want := range map[int]string{0: with(t, 2, "", "ccc"), 2: with(t, 2, "a")} {
		if got, err := Del(p, at); got != want || err != api.OK {
			t.Errorf("Del at %d: %d", at, err)
		}
	}
	for i, c := range []struct {
		f   func() (string, api.Errno)
		err api.Errno
	}{
		{func() (string, api.Errno) { return Add(p, -1, "x") }, api.ErrArg}, {func() (string, api.Errno) { return Add(p, 0, "") }, api.ErrArg}, {func() (string, api.Errno) { return Add(p, math.MaxInt, rec(401)) }, api.ErrArg}, {func() (string, api.Errno) { return Add(p, math.MaxInt, "x") }, api.ErrFull},
		{func() (string, api.Errno) { return Add(with(t, 2, rec(400)), 0, rec(86)) }, api.ErrFull}, {func() (string, api.Errno) { return Del(p, 1) }, api.ErrNone}, {func() (string, api.Errno) { return Del(p, 3) }, api.ErrNone}, {func() (string, api.Errno) { return Del(p, -1) }, api.ErrNone},
	} {
		if s, err := c.f(); s != "" || err != c.err {
			t.Errorf("%d: %d", i, err)
		}
	}
}

func TestP37_6(t *testing.T) {
	r := rand.New(rand.NewSource(37))
	p := SetLink(SetLsn(New(api.GHeap), 99), 7)
	var model []string
	trim := func() {
		for len(model) > 0 && model[len(model)-1] == "" {
			model = model[:len(model)-1]
		}
	}
	for range 20000 {
		slot, x := r.Intn(12), strings.Repeat(string(rune('a'+r.Intn(26))), 1+r.Intn(60))
		old, occupied := Get(p, slot)
		var next, back string
		var err, backErr api.Errno
		before := slices.Clone(model)
		switch r.Intn(5) {
		case 0:
			next, err = Put(p, slot, x)
			if err == api.OK {
				back, backErr = Cut(next, slot)
				for len(model) <= slot {
					model = append(model, "")
				}
				model[slot] = x
			}
		case 1:
			next, err = Cut(p, slot)
			if err == api.OK {
				back, backErr = Put(next, slot, old)
				model[slot] = ""
			}
		case 2:
			next, err = Set(p, slot, x)
			if err == api.OK {
				back, backErr = Set(next, slot, old)
				model[slot] = x
			}
		case 3:
			next, err = Add(p, slot, x)
			if err == api.OK {
				back, backErr = Del(next, slot)
				for len(model) < slot {
					model = append(model, "")
				}
				model = slices.Insert(model, slot, x)
			}
		case 4:
			next, err = Del(p, slot)
			if err == api.OK {
				back, backErr = Add(next, slot, old)
				model = slices.Delete(model, slot, slot+1)
			}
		}
		if err != api.OK {
			if err == api.ErrNone && occupied || err == api.ErrArg && !occupied {
				t.Fatalf("%d for slot %d", err, slot)
			}
			model = before
			if r.Intn(4) == 0 {
				p, model = SetLink(SetLsn(New(api.GHeap), 99), 7), nil
			}
			continue
		}
		trim()
		if backErr != api.OK || back != p || !Right(next) || Lsn(next) != 99 || Link(next) != 7 || Slots(next) != len(model) {
			t.Fatalf("%d: not undone", backErr)
		}
		for i, want := range model {
			if got, _ := Get(next, i); got != want {
				t.Fatalf("slot %d: %q, want %q", i, got, want)
			}
		}
		p = next
	}
}
