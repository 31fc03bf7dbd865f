package rec

import (
	"math"
	"math/rand"
	"reflect"
	"strings"
	"testing"

	"tabellion/api"
	"tabellion/octet"
)

const most = 1<<40 - 1

func samples() []api.Rec {
	op := api.Op{Kind: api.OSet, Slot: 1<<15 - 1, Old: "ab", New: strings.Repeat("x", 512)}
	return []api.Rec{
		{Kind: api.KBegin, Lsn: 1, Txn: 1}, {Kind: api.KCommit, Lsn: most, Prev: most, Txn: most}, {Kind: api.KAbort}, {Kind: api.KEnd, Prev: 7},
		{Kind: api.KChange, Lsn: 5, Txn: 2, Page: 1<<23 - 1, Op: op, How: api.UPage}, {Kind: api.KChange, Op: api.Op{Kind: api.OAdd}, How: api.UPut, Root: 1<<23 - 1, E: api.Entry{Key: strings.Repeat("k", 100), Rid: api.Rid{Page: 1<<23 - 1, Slot: 1<<15 - 1}}},
		{Kind: api.KChange, Op: api.Op{Kind: api.ODel}, How: api.UCut}, {Kind: api.KClr, Page: 3, Op: op, Next: most}, {Kind: api.KNest, Next: 9}, {Kind: api.KImage, Page: 4, Op: api.Op{Kind: api.OAll, New: "p"}},
		{Kind: api.KCheck, Num: most}, {Kind: api.KCheck, Lsn: 8, Num: 1, Txns: []api.TxnAt{{Txn: 1, Last: 2, Next: 3, Done: true}, {Txn: most, Last: most, Next: most}}, Dirty: []api.DirtyAt{{Page: 1<<23 - 1, Rec: most}, {}}},
		{Kind: api.KCheck, Txns: make([]api.TxnAt, 1000), Dirty: make([]api.DirtyAt, 2000)},
	}
}

// allowed are the fields of each kind beside Lsn, Prev, Txn and Kind.
var allowed = map[int]string{
	api.KChange: "Page Op How", api.KClr: "Page Op Next", api.KNest: "Next", api.KImage: "Page Op", api.KCheck: "Num Txns Dirty",
}

func TestP38_1(t *testing.T) {
	fill := map[string]any{
		"Page": 1, "Next": 1, "Num": 1, "Op": api.Op{Kind: 1}, "How": 1, "Root": 1, "E": api.Entry{Key: "k"}, "Txns": make([]api.TxnAt, 1), "Dirty": make([]api.DirtyAt, 1),
	}
	for i, r := range samples() {
		if !Right(r) {
			t.Errorf("%d is rejected", i)
		}
		for field, v := range fill {
			if strings.Contains(allowed[r.Kind], field) || r.How > api.UPage && strings.Contains("Root E", field) {
				continue
			}
			bad := r
			reflect.ValueOf(&bad).Elem().FieldByName(field).Set(reflect.ValueOf(v))
			if Right(bad) {
				t.Errorf("%d is accepted with %s", i, field)
			}
		}
		for _, n := range []int{-1, most + 1, math.MinInt, math.MaxInt} {
			for _, field := range []string{"Lsn", "Prev", "Txn"} {
				bad := r
				reflect.ValueOf(&bad).Elem().FieldByName(field).SetInt(int64(n))
				if Right(bad) {
					t.Errorf("%d is accepted with %s %d", i, field, n)
				}
			}
		}
	}
	for i, r := range []api.Rec{
		{}, {Kind: 10}, {Kind: -1}, {Kind: api.KNest, Next: -1}, {Kind: api.KNest, Next: most + 1}, {Kind: api.KClr, Op: api.Op{Kind: 1}, Next: -1}, {Kind: api.KClr}, {Kind: api.KImage}, {Kind: api.KImage, Op: api.Op{Kind: 8}}, {Kind: api.KImage, Op: api.Op{Kind: 1, Slot: 1 << 15}},
		{Kind: api.KImage, Op: api.Op{Kind: 1, Slot: -1}}, {Kind: api.KImage, Op: api.Op{Kind: 1, Old: strings.Repeat("x", 513)}}, {Kind: api.KImage, Op: api.Op{Kind: 1, New: strings.Repeat("x", 513)}}, {Kind: api.KImage, Page: 1 << 23, Op: api.Op{Kind: 1}}, {Kind: api.KImage, Page: -1, Op: api.Op{Kind: 1}},
		{Kind: api.KChange, Op: api.Op{Kind: 1}}, {Kind: api.KChange, Op: api.Op{Kind: 1}, How: 4}, {Kind: api.KChange, Op: api.Op{Kind: 1}, How: 2, Root: 1 << 23}, {Kind: api.KChange, Op: api.Op{Kind: 1}, How: 2, Root: -1}, {Kind: api.KChange, Op: api.Op{Kind: 1}, How: 3, E: api.Entry{Key: strings.Repeat("k", 101)}},
		{Kind: api.KChange, Op: api.Op{Kind: 1}, How: 3, E: api.Entry{Rid: api.Rid{Page: 1 << 23}}}, {Kind: api.KChange, Op: api.Op{Kind: 1}, How: 3, E: api.Entry{Rid: api.Rid{Slot: 1 << 15}}}, {Kind: api.KChange, Op: api.Op{Kind: 1}, How: 1, Root: 1}, {Kind: api.KChange, Page: 1 << 23, Op: api.Op{Kind: 1}, How: 1},
		{Kind: api.KCheck, Num: -1}, {Kind: api.KCheck, Txns: make([]api.TxnAt, 1001)}, {Kind: api.KCheck, Dirty: make([]api.DirtyAt, 2001)}, {Kind: api.KCheck, Txns: []api.TxnAt{{Txn: -1}}}, {Kind: api.KCheck, Txns: []api.TxnAt{{Last: most + 1}}}, {Kind: api.KCheck, Txns: []api.TxnAt{{Next: -1}}},
		{Kind: api.KCheck, Dirty: []api.DirtyAt{{Page: 1 << 23}}}, {Kind: api.KCheck, Dirty: []api.DirtyAt{{Rec: -1}}},
	} {
		if s, err := Put(r); Right(r) || s != "" || err != api.ErrArg {
			t.Errorf("%d is accepted", i)
		}
	}
}

// numbers writes pairs of a size and a number.
func numbers(l ...int) string {
	s := ""
	for i := 0; i < len(l); i += 2 {
		s += octet.Put(l[i+1], l[i])
	}
	return s
}

func framed(body string) string {
	return octet.Put(len(body), 4) + octet.Put(octet.Sum(body), 4) + body
}

func TestP38_2(t *testing.T) {
	l := samples()
	op := func(o api.Op) string {
		return numbers(1, o.Kind, 2, o.Slot) + octet.PutText(o.Old) + octet.PutText(o.New)
	}
	for i, body := range map[int]string{
		0: numbers(1, 1, 6, 1, 6, 0, 6, 1), 1: numbers(1, 5, 6, most, 6, most, 6, most), 4: numbers(1, 2, 6, 5, 6, 0, 6, 2, 3, 1<<23-1) + op(l[4].Op) + numbers(1, 1),
		5: numbers(1, 2, 6, 0, 6, 0, 6, 0, 3, 0) + op(l[5].Op) + numbers(1, 2, 3, 1<<23-1, 3, 1<<23-1, 2, 1<<15-1) + octet.PutText(strings.Repeat("k", 100)), 7: numbers(1, 3, 6, 0, 6, 0, 6, 0, 3, 3) + op(l[7].Op) + numbers(6, most),
		8: numbers(1, 4, 6, 0, 6, 0, 6, 0, 6, 9), 9: numbers(1, 8, 6, 0, 6, 0, 6, 0, 3, 4) + op(l[9].Op), 11: numbers(1, 9, 6, 8, 6, 0, 6, 0, 6, 1, 2, 2, 6, 1, 6, 2, 6, 3, 1, 1, 6, most, 6, most, 6, most, 1, 0, 2, 2, 3, 1<<23-1, 6, most, 3, 0, 6, 0),
	} {
		if s, err := Put(l[i]); s != framed(body) || err != api.OK {
			t.Errorf("%d: %q, want %q", i, s, framed(body))
		}
	}
	if s, _ := Put(l[0]); len(s) != 27 || s[:4] != "\x00\x00\x00\x13" {
		t.Error("the example")
	}
}

func TestP38_3(t *testing.T) {
	one, _ := Put(samples()[0])
	for i, c := range []struct {
		s   string
		at  int
		err api.Errno
	}{
		{one, -1, api.ErrArg}, {one, 28, api.ErrArg}, {one, math.MaxInt, api.ErrArg}, {one, 27, api.ErrShort}, {one, 20, api.ErrShort}, {"", 0, api.ErrShort}, {one[:26], 0, api.ErrShort}, {one[:7], 0, api.ErrShort}, {"\xff\xff\xff\xff" + one[4:], 0, api.ErrShort},
		{one[:4] + "\x00" + one[5:], 0, api.ErrSum}, {one[:26] + "\x09", 0, api.ErrSum}, {"\x00\x00\x00\x12" + one[4:], 0, api.ErrSum}, {strings.Repeat("\x00", 8), 0, api.ErrForm}, {framed(one[8:] + "\x00"), 0, api.ErrForm}, {framed(one[8:26]), 0, api.ErrForm},
		{framed(numbers(1, 10, 6, 1, 6, 0, 6, 1)), 0, api.ErrForm}, {framed(numbers(1, 1, 6, most+1, 6, 0, 6, 1)), 0, api.ErrForm}, {framed(numbers(1, 9, 6, 1, 6, 0, 6, 1, 6, 1, 2, 1, 6, 1, 6, 1, 6, 1, 1, 2, 2, 0)), 0, api.ErrForm},
		{framed(numbers(1, 9, 6, 1, 6, 0, 6, 1, 6, 1, 2, 9, 6, 1)), 0, api.ErrForm}, {framed(numbers(1, 8, 6, 1, 6, 0, 6, 1, 3, 1, 1, 1, 2, 0, 2, 9)), 0, api.ErrForm}, {framed(numbers(1, 2, 6, 1, 6, 0, 6, 1, 3, 1, 1, 1, 2, 0, 2, 0, 2, 0, 1, 0)), 0, api.ErrForm},
	} {
		if r, next, err := Get(c.s, c.at); err != c.err || next != 0 || !Same(r, api.Rec{}) {
			t.Errorf("%d: %d", i, err)
		}
	}
	if r, next, err := Get("ab"+one+"cd", 2); err != api.OK || next != 29 || !Same(r, samples()[0]) {
		t.Error(next, err)
	}
	for i, r := range samples() {
		for j, x := range samples() {
			if Same(r, x) != (i == j) {
				t.Errorf("Same of %d and %d", i, j)
			}
		}
	}
	full := api.Rec{Lsn: 1, Prev: 1, Txn: 1, Kind: 1, Page: 1, Next: 1, Num: 1, Op: api.Op{Kind: 1, Slot: 1, Old: "a", New: "b"}, How: 1, Root: 1, E: api.Entry{Key: "k", Rid: api.Rid{Page: 1, Slot: 1}}, Txns: []api.TxnAt{{}}, Dirty: []api.DirtyAt{{}}}
	for i := range reflect.TypeOf(full).NumField() {
		other := full
		f := reflect.ValueOf(&other).Elem().Field(i)
		f.Set(reflect.Zero(f.Type()))
		if Same(full, other) || Same(other, full) {
			t.Errorf("field %d makes no difference", i)
		}
	}
	if !Same(api.Rec{Txns: []api.TxnAt{}}, api.Rec{Dirty: []api.DirtyAt{}}) {
		t.Error("nil and empty lists")
	}
}

func TestP38_4(t *testing.T) {
	r := rand.New(rand.NewSource(38))
	for i, x := range samples() {
		s, err := Put(x)
		if err != api.OK {
			t.Fatal(err)
		}
		before := strings.Repeat("z", r.Intn(9))
		if got, next, err := Get(before+s+"zz", len(before)); err != api.OK || next != len(before)+len(s) || !Same(got, x) {
			t.Errorf("%d: %d", i, err)
		}
		for range 300 {
			b := []byte(s)
			b[4+r.Intn(len(b)-4)] ^= byte(1 + r.Intn(255))
			if _, _, err := Get(string(b), 0); err != api.ErrSum {
				t.Fatalf("%d: a changed byte: %d", i, err)
			}
		}
	}
}
