package keycode

import (
	"math/rand"
	"strings"
	"testing"

	"tabellion/api"
	"tabellion/value"
)

var null = api.Value{}

func TestP7_1(t *testing.T) {
	for _, c := range []struct {
		r    api.Row
		want string
	}{
		{nil, ""}, {api.Row{null}, "\x00"}, {api.Row{null, value.Num(5)}, "\x00\x02\x80\x00\x00\x00\x00\x00\x00\x05"},
		{api.Row{value.Str("ab")}, "\x03ab\x00"}, {api.Row{value.Str("")}, "\x03\x00"}, {api.Row{value.Bool(true), value.Bool(false)}, "\x01\x01\x01\x00"},
		{api.Row{value.Num(-1)}, "\x02\x7f\xff\xff\xff\xff\xff\xff\xff"}, {api.Row{value.Num(0)}, "\x02\x80\x00\x00\x00\x00\x00\x00\x00"},
		{api.Row{value.Num(api.MaxNum + 1)}, ""}, {api.Row{null, {Kind: 4}}, ""}, {api.Row{value.Str("\n")}, ""}, {api.Row{{N: 1}}, ""},
		{api.Row{value.Str(strings.Repeat("x", 101))}, ""},
	} {
		if got := Put(c.r); got != c.want {
			t.Errorf("Put(%v) = %q", c.r, got)
		}
	}
}

func TestP7_2(t *testing.T) {
	for _, s := range []string{
		"\x04", "\x01", "\x01\x02", "\x02", "\x02\x80\x00\x00\x00\x00\x00\x00", "\x02\x00\x00\x00\x00\x00\x00\x00\x00", "\x03", "\x03a", "\x03\n\x00",
		"\x03" + strings.Repeat("x", 101) + "\x00", "\x00\xff", "\x03a\x00a", "\x02\x80\x03\x8d\x7e\xa4\xc6\x80\x01",
		"\x02\x7f\xfc\x72\x81\x5b\x39\x7f\xff",
	} {
		if r, ok := Get(s); ok || len(r) != 0 {
			t.Errorf("Get(%q) = %v %v", s, r, ok)
		}
	}
	for _, r := range []api.Row{
		nil, {null}, {value.Num(api.MaxNum), value.Num(-api.MaxNum)}, {value.Str(""), value.Str("a"), null, value.Bool(true)},
		{value.Str(strings.Repeat("~", 100))},
	} {
		if got, ok := Get(Put(r)); !ok || value.Orders(got, r) != 0 {
			t.Errorf("%v: %v %v", r, got, ok)
		}
	}
}

func TestP7_3(t *testing.T) {
	for s, want := range map[string]string{"a\xff": "b", "a": "b", "": "", "\xff": "", "\xff\xff": "", "\xffa\xff\xff": "\xffb", "\x00": "\x01", "ab\xfe": "ab\xff"} {
		if got, ok := After(s); got != want || ok != (want != "") {
			t.Errorf("After(%q) = %q %v", s, got, ok)
		}
	}
	r := rand.New(rand.NewSource(7))
	bytes := []byte{0, 1, 'a', 254, 255}
	for range 20000 {
		s, u := make([]byte, r.Intn(4)), make([]byte, r.Intn(5))
		for i := range s {
			s[i] = bytes[r.Intn(5)]
		}
		for i := range u {
			u[i] = bytes[r.Intn(5)]
		}
		// After is the least one: what lies before it is not greater than s, or begins with s.
		if after, ok := After(string(s)); ok && (string(u) < after) != (string(u) <= string(s) || strings.HasPrefix(string(u), string(s))) {
			t.Fatalf("After(%q) = %q, and %q", s, after, u)
		}
	}
}

func random(r *rand.Rand) api.Row {
	row := make(api.Row, r.Intn(4))
	for i := range row {
		row[i] = []api.Value{
			null, value.Bool(r.Intn(2) == 0), value.Num(r.Intn(5) - 2), value.Num(r.Intn(2*api.MaxNum) - api.MaxNum),
			value.Str(strings.Repeat(" ", r.Intn(3))), value.Str([]string{"a", "ab", "a ", "~", "b"}[r.Intn(5)]),
		}[r.Intn(6)]
	}
	return row
}

func TestP7_4(t *testing.T) {
	r := rand.New(rand.NewSource(8))
	for range 20000 {
		a, b := random(r), random(r)
		if got := strings.Compare(Put(a), Put(b)); got != value.Orders(a, b) {
			t.Fatalf("%v and %v: %d", a, b, got)
		}
		if len(b) == 0 {
			continue
		}
		begins := len(a) >= len(b) && value.Orders(a[:len(b)], b) == 0
		after, _ := After(Put(b))
		if begins != (Put(a) >= Put(b) && Put(a) < after) {
			t.Fatalf("%v begins with %v: %v", a, b, begins)
		}
	}
}
