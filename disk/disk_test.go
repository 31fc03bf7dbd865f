package disk

import (
	"math"
	"math/rand"
	"reflect"
	"strings"
	"testing"

	"tabellion/api"
)

func sector(c string) string { return strings.Repeat(c, 128) }

func made(t *testing.T, n int) api.Disk {
	t.Helper()
	d, err := New(n)
	if err != api.OK {
		t.Fatal(err)
	}
	return d
}

func TestP36_1(t *testing.T) {
	for _, n := range []int{1, 7, 1 << 16} {
		d := made(t, n)
		if len(d.Sectors) != n || d.Left != -1 || d.Down {
			t.Errorf("New(%d)", n)
		}
		for _, s := range d.Sectors {
			if s != sector("\x00") {
				t.Fatalf("%q", s)
			}
		}
	}
	for _, n := range []int{0, -1, 1<<16 + 1, math.MaxInt, math.MinInt} {
		if d, err := New(n); err != api.ErrArg || !reflect.DeepEqual(d, api.Disk{}) {
			t.Errorf("New(%d): %d", n, err)
		}
	}
}

func TestP36_2(t *testing.T) {
	d := made(t, 3)
	d, _ = Write(d, 1, sector("x"))
	if s, err := Read(d, 1); s != sector("x") || err != api.OK {
		t.Error(s, err)
	}
	for _, at := range []int{-1, 3, math.MaxInt, math.MinInt} {
		if s, err := Read(d, at); s != "" || err != api.ErrArg {
			t.Error(at, err)
		}
		down := d
		down.Down = true
		if s, err := Read(down, at); s != "" || err != api.ErrDown {
			t.Error(at, err)
		}
	}
}

func TestP36_3(t *testing.T) {
	d := Arm(made(t, 3), 1)
	one, err := Write(d, 0, sector("a"))
	if err != api.OK || one.Left != 0 || one.Sectors[0] != sector("a") || d.Sectors[0] != sector("\x00") || d.Left != 1 {
		t.Error(one, err)
	}
	for _, c := range []struct {
		at int
		b  string
	}{{3, sector("b")}, {-1, sector("b")}, {0, ""}, {0, sector("b") + "b"}, {0, sector("b")[1:]}} {
		if got, err := Write(one, c.at, c.b); err != api.ErrArg || !reflect.DeepEqual(got, one) {
			t.Error(c.at, err)
		}
	}
	two, err := Write(one, 1, sector("b"))
	want := one
	want.Down = true
	if err != api.ErrDown || !reflect.DeepEqual(two, want) {
		t.Error(two, err)
	}
	if three, err := Write(two, 9, ""); err != api.ErrDown || !reflect.DeepEqual(three, two) {
		t.Error(err)
	}
	free, err := Write(made(t, 1), 0, sector("z"))
	if err != api.OK || free.Left != -1 {
		t.Error(free.Left, err)
	}
}

func TestP36_4(t *testing.T) {
	page := sector("a") + sector("b") + sector("c") + sector("d")
	d, err := WritePage(made(t, 8), 4, page)
	if err != api.OK || d.Sectors[3] != sector("\x00") || d.Sectors[4] != sector("a") || d.Sectors[7] != sector("d") {
		t.Error(err)
	}
	if p, err := ReadPage(d, 4); p != page || err != api.OK {
		t.Error(err)
	}
	for _, at := range []int{5, 8, -1, math.MaxInt, math.MaxInt - 2, math.MinInt} {
		if p, err := ReadPage(d, at); p != "" || err != api.ErrArg {
			t.Error(at, err)
		}
		if got, err := WritePage(d, at, page); err != api.ErrArg || !reflect.DeepEqual(got, d) {
			t.Error(at, err)
		}
	}
	if got, err := WritePage(d, 0, page[1:]); err != api.ErrArg || !reflect.DeepEqual(got, d) {
		t.Error(err)
	}
	torn, err := WritePage(Arm(made(t, 8), 2), 4, strings.Repeat("a", 512))
	if err != api.ErrDown || !torn.Down || torn.Left != 0 {
		t.Error(err)
	}
	if got, err := WritePage(torn, 77, ""); err != api.ErrDown || !reflect.DeepEqual(got, torn) {
		t.Error(err)
	}
	if _, err := ReadPage(torn, 77); err != api.ErrDown {
		t.Error(err)
	}
	torn = Start(torn)
	if p, _ := ReadPage(torn, 4); p != sector("a")+sector("a")+sector("\x00")+sector("\x00") {
		t.Errorf("%q", p)
	}
	if tiny := made(t, 2); true {
		if _, err := WritePage(tiny, 0, page); err != api.ErrArg {
			t.Error(err)
		}
	}
}

func TestP36_5(t *testing.T) {
	d := made(t, 2)
	for n, want := range map[int]int{5: 5, 0: 0, -1: -1, -7: -1, math.MinInt: -1, math.MaxInt: math.MaxInt} {
		if got := Arm(d, n); got.Left != want || got.Down || len(got.Sectors) != 2 {
			t.Error(n, got.Left)
		}
	}
	down := api.Disk{Sectors: d.Sectors, Left: 0, Down: true}
	if got := Arm(down, 3); !got.Down || got.Left != 3 {
		t.Error("Arm turns the power on")
	}
	if got := Start(down); got.Down || got.Left != -1 || !reflect.DeepEqual(got.Sectors, d.Sectors) {
		t.Error("Start")
	}
	got := Start(d)
	got.Sectors[0] = "x"
	if d.Sectors[0] == "x" {
		t.Error("the sectors are shared")
	}
}

func TestP36_6(t *testing.T) {
	r := rand.New(rand.NewSource(36))
	for range 300 {
		n := r.Intn(12)
		d := Arm(made(t, 10), n)
		want := append([]string{}, d.Sectors...)
		for i := 0; ; i++ {
			at, b := r.Intn(10), sector(string(rune('a'+r.Intn(26))))
			var err api.Errno
			d, err = Write(d, at, b)
			if i == n {
				if err != api.ErrDown || !d.Down {
					t.Fatalf("write %d of %d: %d", i, n, err)
				}
				break
			}
			want[at] = b
			if s, _ := Read(d, at); err != api.OK || s != b {
				t.Fatalf("write %d of %d: %d", i, n, err)
			}
		}
		if d = Start(d); !reflect.DeepEqual(d.Sectors, want) || d.Down {
			t.Fatal("what was accepted is not there")
		}
	}
}
