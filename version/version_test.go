package version

import (
	"fmt"
	"math"
	"math/rand"
	"reflect"
	"strings"
	"testing"

	"tabellion/api"
	"tabellion/octet"
	"tabellion/rowcode"
	"tabellion/value"
)

const limit = 1<<48 - 1

func text(n int) api.Value { return value.Str(strings.Repeat("x", n)) }

func made(row, from, to int, data ...api.Value) api.Version {
	return api.Version{Row: row, From: from, To: to, Data: data}
}

func TestP50_1(t *testing.T) {
	long := []api.Value{text(100), text(100), text(100)}
	for i, c := range []struct {
		v   api.Version
		err api.Errno
	}{
		{made(1, 2, 3, value.Num(4), api.Value{}), 0}, {made(0, 0, 0), 0}, {made(limit, limit, limit, value.Bool(true)), 0}, {made(limit+1, 0, 0), api.ErrArg}, {made(0, limit+1, 0), api.ErrArg}, {made(0, 0, limit+1), api.ErrArg}, {made(-1, 0, 0), api.ErrArg}, {made(0, -1, 0), api.ErrArg}, {made(0, 0, math.MinInt), api.ErrArg},
		{made(0, 0, 0, value.Num(api.MaxNum+1)), api.ErrArg}, {made(0, 0, 0, make([]api.Value, 33)...), api.ErrLong}, {made(0, 0, 0, append(long, text(73))...), 0}, {made(0, 0, 0, append(long, text(74))...), api.ErrLong}, {made(-1, 0, 0, make([]api.Value, 33)...), api.ErrArg},
	} {
		s, err := Put(c.v)
		if err != c.err || err != api.OK && s != "" {
			t.Errorf("%d: %d", i, err)
		}
		if err != api.OK {
			continue
		}
		row, _ := rowcode.Put(c.v.Data)
		if s != octet.Put(c.v.Row, 6)+octet.Put(c.v.From, 6)+octet.Put(c.v.To, 6)+row {
			t.Errorf("%d: %q", i, s)
		}
	}
	if s, _ := Put(made(0, 0, 0, append(long, text(73))...)); len(s) != 400 {
		t.Error(len(s))
	}
}

func TestP50_2(t *testing.T) {
	head := strings.Repeat("\x00", 18)
	for s, want := range map[string]api.Errno{
		"": api.ErrShort, head[1:]: api.ErrShort, head: api.ErrShort, head + "\x01": api.ErrShort, head + "\x01\x09": api.ErrForm, head + "\x00\x00": api.ErrForm, head + "\x21": api.ErrLong, head + strings.Repeat("\x00", 383): api.ErrLong, head + strings.Repeat("\x00", 382): api.ErrForm,
	} {
		if v, err := Get(s); err != want || !reflect.DeepEqual(v, api.Version{}) {
			t.Errorf("%q: %d", s, err)
		}
	}
	v, err := Get("\x00\x00\x00\x00\x00\x01\x00\x00\x00\x00\x01\x00\xff\xff\xff\xff\xff\xff\x02\x00\x03\x01a")
	if err != api.OK || !reflect.DeepEqual(v, made(1, 256, limit, api.Value{}, value.Str("a"))) {
		t.Error(v, err)
	}
}

func TestP50_3(t *testing.T) {
	v := made(1, 2, 5)
	open := made(1, 2, 0)
	for snap, want := range map[int][2]bool{0: {false, false}, 1: {false, false}, 2: {true, true}, 3: {true, true}, 4: {true, true}, 5: {false, true}, 6: {false, true}, -1: {false, false}} {
		if Seen(v, snap) != want[0] || Seen(open, snap) != want[1] {
			t.Error(snap)
		}
	}
	l := []api.Held{{V: made(9, 1, 0), Rid: api.Rid{Page: 4}}, {V: made(2, 7, 0)}, {V: made(2, 1, 7, value.Num(1))}, {V: made(1, 5, 5)}}
	if got := Pick(l, 5); fmt.Sprint(got) != fmt.Sprint([]api.Held{l[0], l[2]}) {
		t.Error(got)
	}
	if len(Pick(nil, 5)) != 0 || len(Pick(l, 0)) != 0 {
		t.Error("nothing")
	}
}

func TestP50_4(t *testing.T) {
	for _, c := range []struct {
		to, oldest int
		want       bool
	}{{5, 5, true}, {5, 4, false}, {5, 6, true}, {0, 9, false}, {-3, 9, false}, {1, 0, false}} {
		if Old(made(1, 2, c.to), c.oldest) != c.want {
			t.Error(c)
		}
	}
}

func TestP50_5(t *testing.T) {
	r := rand.New(rand.NewSource(50))
	for range 5000 {
		v := made(r.Intn(1<<48), r.Intn(9), r.Intn(9), []api.Value{{}, value.Num(r.Intn(9)), text(r.Intn(5))}[:r.Intn(4)]...)
		s, err := Put(v)
		got, err2 := Get(s)
		if err != api.OK || err2 != api.OK || fmt.Sprint(got) != fmt.Sprint(v) {
			t.Fatal(v, err, err2)
		}
		b := []byte(s)
		b[r.Intn(len(b))] = byte(r.Intn(5))
		if changed, err := Get(string(b)); err == api.OK {
			if back, err := Put(changed); back != string(b) || err != api.OK {
				t.Fatalf("%q", b)
			}
		}
		for snap := range 10 {
			if Old(v, snap) && (Seen(v, snap) || Seen(v, snap+1) || Seen(v, snap+100)) {
				t.Fatal("an old version is seen")
			}
			from, to, end := 1+r.Intn(3), 4+r.Intn(3), 7+r.Intn(3)*r.Intn(2)
			first, second := made(1, from, to), made(1, to, end)
			n := 0
			for _, x := range []api.Version{first, second} {
				if Seen(x, snap) {
					n++
				}
			}
			if want := snap >= from && snap < end; n > 1 || (n == 1) != want {
				t.Fatal(first, second, snap, n)
			}
		}
	}
}
