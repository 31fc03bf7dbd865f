package log

import (
	"math"
	"math/rand"
	"reflect"
	"strings"
	"testing"

	"tabellion/api"
	"tabellion/disk"
	"tabellion/rec"
)

// sized returns a record with so many bytes, at least 40.
func sized(n, txn int) api.Rec {
	r := api.Rec{Kind: api.KImage, Txn: txn, Page: 1, Op: api.Op{Kind: api.OAll}}
	s, _ := rec.Put(r)
	r.Op.New = strings.Repeat("x", n-len(s))
	return r
}

func begin(txn int) api.Rec { return api.Rec{Kind: api.KBegin, Txn: txn} }

func made(t *testing.T, n int) api.Disk {
	t.Helper()
	d, err := disk.New(n)
	if err != api.OK {
		t.Fatal(err)
	}
	return d
}

func add(t *testing.T, l api.Log, recs ...api.Rec) api.Log {
	t.Helper()
	for _, r := range recs {
		var err api.Errno
		if l, _, err = Append(l, r); err != api.OK {
			t.Fatal(err)
		}
	}
	return l
}

func force(t *testing.T, d api.Disk, l api.Log) (api.Disk, api.Log) {
	t.Helper()
	d, l, err := Force(d, l)
	if err != api.OK {
		t.Fatal(err)
	}
	return d, l
}

func TestP39_1(t *testing.T) {
	for _, n := range []int{0, 5, -3, math.MaxInt} {
		if l := New(n, -n); l != (api.Log{From: n, Sectors: -n}) {
			t.Error(l)
		}
	}
}

func TestP39_2(t *testing.T) {
	l := New(3, 2)
	l, lsn, err := Append(l, api.Rec{Kind: api.KBegin, Txn: 1, Lsn: 77})
	want, _ := rec.Put(api.Rec{Kind: api.KBegin, Txn: 1, Lsn: 1})
	if lsn != 1 || err != api.OK || l != (api.Log{From: 3, Sectors: 2, End: 27, Tail: want}) {
		t.Error(l, lsn, err)
	}
	l, lsn, err = Append(l, begin(2))
	if lsn != 28 || err != api.OK || l.End != 54 || len(l.Tail) != 54 || l.Safe != 0 {
		t.Error(l, lsn, err)
	}
	if again, lsn, err := Append(l, api.Rec{}); again != l || lsn != 0 || err != api.ErrArg {
		t.Error(lsn, err)
	}
	if again, lsn, err := Append(l, sized(256-53, 1)); again != l || lsn != 0 || err != api.ErrFull {
		t.Error(lsn, err)
	}
	if full, lsn, err := Append(l, sized(256-54, 1)); full.End != 256 || lsn != 55 || err != api.OK {
		t.Error(lsn, err)
	} else if _, _, err := Append(full, begin(1)); err != api.ErrFull {
		t.Error(err)
	}
	if _, lsn, _ := Append(add(t, New(0, 9), sized(55, 0)), begin(1)); lsn != 56 {
		t.Error(lsn)
	}
	for _, l := range []api.Log{New(0, 0), New(0, -1), {End: math.MaxInt, Sectors: math.MaxInt}, {End: -7, Sectors: 9}, {End: 1<<40 - 1, Sectors: math.MaxInt}} {
		if again, lsn, err := Append(l, begin(1)); again != l || lsn != 0 || err == api.OK {
			t.Error(l, lsn, err)
		}
	}
}

func TestP39_3(t *testing.T) {
	d := made(t, 12)
	l := New(2, 8)
	if d2, l2, err := Force(d, l); err != api.OK || l2 != l || !reflect.DeepEqual(d2, d) {
		t.Error(err)
	}
	l = add(t, l, sized(300, 1))
	bytes := l.Tail
	d1, l1 := force(t, d, l)
	if l1.Safe != 300 || l1.End != 300 || l1.Tail != bytes[256:] || l.Safe != 0 {
		t.Error(l1)
	}
	if got := strings.Join(d1.Sectors[2:5], ""); got != bytes+strings.Repeat("\x00", 84) {
		t.Error("the bytes are not there")
	}
	l2 := add(t, l1, sized(84, 1)) // up to the end of a sector
	d2, l2 := force(t, d1, l2)
	if l2.Safe != 384 || l2.Tail != "" {
		t.Error(l2)
	}
	_, l3 := force(t, d2, add(t, l2, begin(5)))
	if l3.Safe != 411 || len(l3.Tail) != 27 {
		t.Error(l3)
	}
	// The order of the sectors: zero bytes behind them, then the last one, and the first one at the end.
	dirty := d
	dirty.Sectors = append([]string{}, d.Sectors...)
	for i := range dirty.Sectors {
		dirty.Sectors[i] = strings.Repeat("z", 128)
	}
	for n, want := range []string{"zzzz", "zzz0", "zzn0", "znn0", "nnn0"} {
		armed, forced, err := Force(disk.Arm(dirty, n), l)
		got := ""
		for _, s := range armed.Sectors[2:6] {
			switch {
			case s == strings.Repeat("z", 128):
				got += "z"
			case s == strings.Repeat("\x00", 128):
				got += "0"
			default:
				got += "n"
			}
		}
		if got != want || (err == api.OK) != (n == 4) || err != api.OK && (forced != l || err != api.ErrDown || !armed.Down) {
			t.Errorf("%d sectors: %s %d", n, got, err)
		}
	}
	last := add(t, New(2, 3), sized(300, 1))
	if d, _ := force(t, dirty, last); d.Sectors[5] != strings.Repeat("z", 128) {
		t.Error("the log has no sector behind its last one")
	}
	if _, again, err := Force(d, api.Log{From: 40, Sectors: 2, End: 5, Tail: "hello"}); err != api.ErrArg || again.Safe != 0 {
		t.Error(err)
	}
	Force(d, api.Log{From: math.MaxInt, Sectors: math.MaxInt, End: -1, Safe: math.MinInt, Tail: "x"})
}

func TestP39_4(t *testing.T) {
	l := add(t, New(2, 8), begin(1), sized(300, 2), begin(3))
	d, l := force(t, made(t, 12), l)
	got, recs, err := Open(d, 2, 8)
	if err != api.OK || got != l || len(recs) != 3 || recs[0].Lsn != 1 || recs[1].Lsn != 28 || recs[2].Lsn != 328 || recs[2].Txn != 3 {
		t.Error(got, len(recs), err)
	}
	if got, recs, err := Open(d, 2, 2); err != api.OK || len(recs) != 1 || got != (api.Log{From: 2, Sectors: 2, End: 27, Safe: 27, Tail: l.Tail[:0] + d.Sectors[2][:27]}) {
		t.Error(got, len(recs), err)
	}
	for _, n := range []int{0, -4} {
		if got, recs, err := Open(d, 2, n); err != api.OK || len(recs) != 0 || got != (api.Log{From: 2, Sectors: n}) {
			t.Error(got, err)
		}
	}
	for _, c := range []struct{ from, sectors int }{{2, 11}, {-1, 3}, {12, 1}, {math.MaxInt, 5}, {0, math.MaxInt}} {
		if got, recs, err := Open(d, c.from, c.sectors); err != api.ErrArg || len(recs) != 0 || got != (api.Log{}) {
			t.Error(c, err)
		}
	}
	d.Down = true
	if _, _, err := Open(d, 2, 8); err != api.ErrDown {
		t.Error(err)
	}
	// A record whose Lsn is not its place ends the log.
	wrong, _ := rec.Put(api.Rec{Kind: api.KBegin, Lsn: 7, Txn: 1})
	d = made(t, 3)
	d.Sectors[0] = wrong + strings.Repeat("\x00", 128-len(wrong))
	if got, recs, _ := Open(d, 0, 3); got.End != 0 || len(recs) != 0 {
		t.Error(got)
	}
}

func TestP39_5(t *testing.T) {
	l := add(t, New(1, 30), begin(1), sized(300, 2), begin(3))
	d, l := force(t, made(t, 40), l)
	l = add(t, l, sized(500, 4), begin(5))
	for lsn, txn := range map[int]int{1: 1, 28: 2, 328: 3, 355: 4, 855: 5} {
		if r, err := Read(d, l, lsn); err != api.OK || r.Txn != txn || r.Lsn != lsn {
			t.Error(lsn, r.Txn, err)
		}
	}
	for _, lsn := range []int{0, -1, 2, 27, 29, 354, 356, 854, 881, 882, 900, math.MaxInt, math.MinInt} {
		if r, err := Read(d, l, lsn); err != api.ErrNone || !rec.Same(r, api.Rec{}) {
			t.Error(lsn, err)
		}
	}
	down := d
	down.Down = true
	if _, err := Read(down, l, 28); err != api.ErrDown {
		t.Error(err)
	}
	if r, err := Read(down, l, 328); err != api.OK || r.Txn != 3 {
		t.Error("the tail is in memory", err)
	}
	if _, err := Read(down, l, 900); err != api.ErrNone {
		t.Error(err)
	}
	short := d
	short.Sectors = d.Sectors[:2]
	if _, err := Read(short, l, 1); err != api.ErrArg {
		t.Error(err)
	}
	for _, l := range []api.Log{{From: -1 << 60, End: 1 << 60, Safe: 1 << 60}, {From: 1, End: math.MaxInt, Safe: math.MaxInt}, {End: math.MaxInt, Safe: math.MinInt}} {
		for _, lsn := range []int{1, 1 << 50, math.MaxInt} {
			if _, err := Read(d, l, lsn); err == api.OK {
				t.Error(l)
			}
		}
	}
}

func TestP39_6(t *testing.T) {
	r := rand.New(rand.NewSource(39))
	for range 400 {
		d, l := made(t, 60), New(1, 59)
		var all []api.Rec // everything that was appended
		safe := 0         // how many of them are safe
		alive := true
		for range 40 {
			switch r.Intn(5) {
			case 0, 1, 2:
				x := sized(40+r.Intn(260), len(all)+1)
				next, lsn, err := Append(l, x)
				if err == api.OK {
					x.Lsn = lsn
					l, all = next, append(all, x)
				}
			case 3:
				before := len(all)
				if r.Intn(3) == 0 {
					d = disk.Arm(d, r.Intn(6))
				}
				d2, l2, err := Force(d, l)
				d, l = d2, l2
				if err == api.OK {
					d, safe = disk.Arm(d, -1), before
					break
				}
				d = disk.Start(d)
				opened, recs, err := Open(d, 1, 59)
				if err != api.OK || len(recs) != safe && len(recs) != before {
					t.Fatalf("%d records, want %d or %d", len(recs), safe, before)
				}
				for i, x := range recs {
					if !rec.Same(x, all[i]) {
						t.Fatalf("record %d", i)
					}
				}
				l, all, safe = opened, all[:len(recs)], len(recs)
				alive = false
			case 4:
				if len(all) > 0 {
					x := all[r.Intn(len(all))]
					if got, err := Read(d, l, x.Lsn); err != api.OK || !rec.Same(got, x) {
						t.Fatalf("record %d: %d, alive %v", x.Lsn, err, alive)
					}
				}
			}
		}
	}
}
