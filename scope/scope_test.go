package scope

import (
	"fmt"
	"math"
	"testing"

	"tabellion/api"
)

func cols(l ...string) []api.Col {
	var out []api.Col
	for i := 0; i < len(l); i += 2 {
		out = append(out, api.Col{Table: l[i], Name: l[i+1], Type: api.VInt})
	}
	return out
}

func TestP14_1(t *testing.T) {
	env := [][]api.Col{cols("t", "a", "u", "a", "u", "b", "", "c"), cols("v", "a", "v", "d", "v", "d", "w", "d"), cols("v", "e", "t", "f")}
	for _, c := range []struct {
		table, name string
		depth, at   int
		err         api.Errno
	}{
		{"", "a", 0, 0, api.ErrMany}, {"u", "a", 0, 1, 0}, {"t", "a", 0, 0, 0}, {"", "b", 0, 2, 0}, {"", "c", 0, 3, 0}, {"v", "a", 1, 0, 0}, {"", "d", 0, 0, api.ErrMany},
		{"v", "d", 0, 0, api.ErrMany}, {"w", "d", 1, 3, 0}, {"", "e", 2, 0, 0}, {"t", "f", 2, 1, 0}, {"t", "b", 0, 0, api.ErrName}, {"", "z", 0, 0, api.ErrName}, {"x", "a", 0, 0, api.ErrName}, {"", "", 0, 0, api.ErrName},
	} {
		if depth, at, err := Find(env, c.table, c.name); depth != c.depth || at != c.at || err != c.err {
			t.Errorf("%s.%s: %d %d %d", c.table, c.name, depth, at, err)
		}
	}
	if _, _, err := Find(nil, "", "a"); err != api.ErrName {
		t.Error(err)
	}
	if _, at, err := Find([][]api.Col{cols("t", "a", "u", "a")}, "u", "a"); at != 1 || err != 0 {
		t.Error(at, err)
	}
}

func TestP14_2(t *testing.T) {
	l := cols("t", "a", "u", "a", "t", "b")
	for _, c := range []struct {
		table, want string
		err         api.Errno
	}{{"", "[0 1 2]", 0}, {"t", "[0 2]", 0}, {"u", "[1]", 0}, {"v", "[]", api.ErrName}} {
		if got, err := Star(l, c.table); fmt.Sprint(got) != c.want || err != c.err {
			t.Errorf("%s: %v %d", c.table, got, err)
		}
	}
	if got, err := Star(nil, ""); len(got) != 0 || err != api.ErrName {
		t.Error(got, err)
	}
}

func TestP14_3(t *testing.T) {
	for _, c := range []struct {
		i    api.Item
		at   int
		want string
	}{
		{api.Item{As: "x", E: api.Expr{Op: api.ECol, Name: "a"}}, 0, "x"}, {api.Item{E: api.Expr{Op: api.ECol, Table: "t", Name: "a"}}, 0, "a"},
		{api.Item{E: api.Expr{Op: api.EAgg, Name: "sum"}}, 4, "sum"}, {api.Item{E: api.Expr{Op: api.EFunc, Name: "lower"}}, 4, "lower"},
		{api.Item{E: api.Expr{Op: api.EAdd, Name: "z"}}, 2, "c3"}, {api.Item{E: api.Expr{Op: api.EConst}}, 0, "c1"}, {api.Item{E: api.Expr{Op: api.EScalar}}, 30, "c31"},
		{api.Item{}, api.MaxNum, "c1000000000000001"}, {api.Item{}, api.MaxNum + 1, "c1"}, {api.Item{}, math.MaxInt, "c1"}, {api.Item{}, -5, "c-4"}, {api.Item{}, math.MinInt, "c1"},
	} {
		if got := Out(c.i, c.at); got != c.want {
			t.Errorf("Out(%v, %d) = %s", c.i, c.at, got)
		}
	}
}

func TestP14_4(t *testing.T) {
	l := cols("t", "a", "u", "b", "", "b", "t", "c")
	for _, c := range []struct {
		l    []api.Order
		want string
		err  api.Errno
	}{
		{nil, "[]", 0}, {[]api.Order{{Name: "c", Down: true}, {At: 1}}, "[{3 true} {0 false}]", 0}, {[]api.Order{{At: 4}, {At: 4}}, "[{3 false} {3 false}]", 0},
		{[]api.Order{{At: 5}}, "[]", api.ErrCount}, {[]api.Order{{At: 0}}, "[]", api.ErrCount}, {[]api.Order{{At: math.MinInt}}, "[]", api.ErrCount}, {[]api.Order{{Name: "b"}}, "[]", api.ErrMany},
		{[]api.Order{{Name: "z", At: 1}}, "[]", api.ErrName}, {[]api.Order{{At: 1}, {Name: "z"}, {At: 9}}, "[]", api.ErrName}, {[]api.Order{{At: 9}, {Name: "z"}}, "[]", api.ErrCount},
	} {
		if got, err := Order(l, c.l); fmt.Sprint(got) != c.want || err != c.err {
			t.Errorf("%v: %v %d", c.l, got, err)
		}
	}
}

func TestP14_5(t *testing.T) {
	own := cols("t", "a", "t", "b", "u", "b")
	for _, outer := range [][]api.Col{nil, cols("t", "a"), cols("u", "b", "x", "c")} {
		for _, n := range []string{"a", "b"} {
			d1, a1, e1 := Find([][]api.Col{own}, "", n)
			d2, a2, e2 := Find([][]api.Col{own, outer, outer}, "", n)
			if d1 != d2 || a1 != a2 || e1 != e2 {
				t.Errorf("%s depends on %v", n, outer)
			}
		}
	}
}
