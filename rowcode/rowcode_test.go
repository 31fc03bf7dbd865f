package rowcode

import (
	"math/rand"
	"strings"
	"testing"

	"tabellion/api"
	"tabellion/value"
)

var null = api.Value{}

func nulls(n int) api.Row { return make(api.Row, n) }

func repeat(n int, v api.Value) api.Row {
	r := make(api.Row, n)
	for i := range r {
		r[i] = v
	}
	return r
}

func text(n int) api.Value { return value.Str(strings.Repeat("x", n)) }

func TestP6_1(t *testing.T) {
	for _, c := range []struct {
		r    api.Row
		want string
		err  api.Errno
		size int
	}{
		{nil, "\x00", api.OK, 1},
		{api.Row{}, "\x00", api.OK, 1},
		{api.Row{null, value.Bool(true), value.Num(-2), value.Str("ab")}, "\x04\x00\x01\x01\x02\xff\xff\xff\xff\xff\xff\xff\xfe\x03\x02ab", api.OK, 17},
		{api.Row{value.Bool(false), value.Num(api.MaxNum)}, "\x02\x01\x00\x02\x00\x03\x8d\x7e\xa4\xc6\x80\x00", api.OK, 12},
		{api.Row{value.Str("")}, "\x01\x03\x00", api.OK, 3},
		{nulls(32), "\x20" + strings.Repeat("\x00", 32), api.OK, 33},
		{nulls(33), "", api.ErrLong, 34},
		{nulls(1000), "", api.ErrLong, 1001},
		{api.Row{text(100), text(100), text(100), text(91)}, "", api.OK, 400},
		{api.Row{text(100), text(100), text(100), text(92)}, "", api.ErrLong, 401},
		{api.Row{text(101)}, "", api.ErrArg, 0},
		{append(nulls(33), value.Num(api.MaxNum+1)), "", api.ErrArg, 0},
		{api.Row{{Kind: 4}}, "", api.ErrArg, 0},
		{api.Row{{Kind: -1}}, "", api.ErrArg, 0},
		{api.Row{{Kind: api.VBool, N: 2}}, "", api.ErrArg, 0},
		{api.Row{value.Str("a\n")}, "", api.ErrArg, 0},
	} {
		got, err := Put(c.r)
		if err != c.err || c.want != "" && got != c.want || err != api.OK && got != "" || err == api.OK && len(got) != c.size {
			t.Errorf("Put(%v) = %q %d", c.r, got, err)
		}
		if got := Size(c.r); got != c.size {
			t.Errorf("Size(%v) = %d", c.r, got)
		}
	}
}

func TestP6_2(t *testing.T) {
	eight := "\x00\x00\x00\x00\x00\x00\x00"
	for s, want := range map[string]api.Errno{
		"": api.ErrShort, "\x01": api.ErrShort, "\x01\x04": api.ErrForm, "\x21": api.ErrLong, "\xff": api.ErrLong,
		"\x02\x00": api.ErrShort, "\x00\x00": api.ErrForm, "\x01\x00\x00": api.ErrForm, "\x01\x01": api.ErrShort,
		"\x01\x01\x02": api.ErrForm, "\x01\x02" + eight: api.ErrShort, "\x01\x02\xff": api.ErrShort,
		"\x01\x02\xff" + eight:                     api.ErrForm, // the number is too small
		"\x01\x02\x00\x03\x8d\x7e\xa4\xc6\x80\x01": api.ErrForm, // MaxNum + 1
		"\x01\x02\xff\xfc\x72\x81\x5b\x39\x7f\xff": api.ErrForm, // -MaxNum - 1
		"\x01\x03":                                         api.ErrShort,
		"\x01\x03\x65":                                     api.ErrForm, // 101 bytes, before they are there
		"\x01\x03\x02a":                                    api.ErrShort,
		"\x01\x03\x02\x1fa":                                api.ErrForm,
		"\x01\x03\x03a\x7f":                                api.ErrForm, // the bad byte comes before the end
		"\x02\x04\x00":                                     api.ErrForm,
		"\x20" + strings.Repeat("\x00", 31):                api.ErrShort,
		"\x00" + strings.Repeat("\x00", 400):               api.ErrLong,
		"\x00" + strings.Repeat("\x00", 399):               api.ErrForm,
		"\x21" + strings.Repeat("\x00", 33):                api.ErrLong,
		"\x01\x03\x02a\xc3":                                api.ErrForm,
		"\x03\x01\x02" + strings.Repeat("\x09", 20):        api.ErrForm,
		"\x02\x03\x02ab\x02\x00\x03\x8d\x7e\xa4\xc6\x7fxy": api.ErrForm,
	} {
		if r, err := Get(s); err != want || len(r) != 0 {
			t.Errorf("Get(%q) = %v %d, want %d", s, r, err, want)
		}
	}
	r, err := Get("\x04\x00\x01\x01\x02\xff\xff\xff\xff\xff\xff\xff\xfe\x03\x02ab")
	if err != api.OK || value.Orders(r, api.Row{null, value.Bool(true), value.Num(-2), value.Str("ab")}) != 0 {
		t.Errorf("%v %d", r, err)
	}
	if r, err := Get("\x00"); err != api.OK || len(r) != 0 {
		t.Errorf("%v %d", r, err)
	}
}

func random(r *rand.Rand) api.Row {
	row := make(api.Row, r.Intn(6))
	for i := range row {
		row[i] = []api.Value{
			null, value.Bool(r.Intn(2) == 0), value.Num(r.Intn(2*api.MaxNum+1) - api.MaxNum), value.Num(r.Intn(3) - 1),
			text(r.Intn(4)), text(r.Intn(101)),
		}[r.Intn(6)]
	}
	return row
}

func TestP6_3(t *testing.T) {
	r := rand.New(rand.NewSource(6))
	for range 3000 {
		row := random(r)
		s, err := Put(row)
		if err != api.OK {
			continue
		}
		got, err := Get(s)
		if err != api.OK || value.Orders(got, row) != 0 {
			t.Fatalf("%v: %v %d", row, got, err)
		}
		for i := range s {
			if _, err := Get(s[:i]); err != api.ErrShort {
				t.Fatalf("a prefix of %q: %d", s, err)
			}
		}
		if _, err := Get(s + string(byte(r.Intn(100)))); err != api.ErrForm && err != api.ErrLong {
			t.Fatalf("%q and a byte: %d", s, err)
		}
		b := []byte(s)
		b[r.Intn(len(b))] = byte(r.Intn(7))
		changed, err := Get(string(b))
		if err != api.OK {
			continue
		}
		if back, err := Put(changed); back != string(b) || err != api.OK {
			t.Fatalf("%q is accepted as %v, whose encoding is %q", b, changed, back)
		}
	}
	full, err := Put(repeat(4, text(97)))
	if err != api.OK || len(full) != 397 {
		t.Error("long rows")
	}
}
