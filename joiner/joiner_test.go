package joiner

import (
	"fmt"
	"math"
	"math/rand"
	"slices"
	"testing"

	"tabellion/api"
	"tabellion/value"
)

func keys(l ...any) []api.Row {
	var out []api.Row
	for _, x := range l {
		switch x := x.(type) {
		case nil:
			out = append(out, api.Row{{}})
		case int:
			out = append(out, api.Row{value.Num(x)})
		case string:
			out = append(out, api.Row{value.Str(x)})
		case api.Row:
			out = append(out, x)
		}
	}
	return out
}

var methods = map[string]func(l, r []api.Row) [][2]int{"Nest": Nest, "Hash": Hash, "Merge": Merge}

func TestP32_1(t *testing.T) {
	two := func(a, b any) api.Row { return append(keys(a)[0], keys(b)[0]...) }
	for i, c := range []struct {
		l, r []api.Row
		want string
	}{
		{keys(1, nil, 2), keys(2, 1, 1), "[[0 1] [0 2] [2 0]]"}, {nil, keys(1), "[]"}, {keys(1), nil, "[]"}, {keys(nil), keys(nil), "[]"}, {keys(1, "1"), keys("1", 1), "[[0 1] [1 0]]"}, {keys(api.Row{}, api.Row{}), keys(api.Row{}, 1), "[[0 0] [1 0]]"},
		{keys(two(1, nil), two(1, 2)), keys(two(1, nil), two(1, 2)), "[[1 1]]"}, {keys(two(1, 2)), keys(1), "[]"}, {keys(3, 1, 3), keys(3, 3, 1), "[[0 0] [0 1] [1 2] [2 0] [2 1]]"}, {keys(""), keys("", " "), "[[0 0]]"},
		{keys(api.Row{{Kind: api.VInt, N: 1, S: "x"}}), keys(1, api.Row{{Kind: api.VInt, N: 1, S: "x"}}), "[[0 1]]"}, {keys(api.Row{{N: 5}}), keys(api.Row{{N: 5}}), "[]"},
	} {
		for name, f := range methods {
			if got := fmt.Sprint(f(c.l, c.r)); got != c.want {
				t.Errorf("%d: %s: %s", i, name, got)
			}
		}
	}
}

func TestP32_2(t *testing.T) {
	for _, c := range []struct {
		n    int
		l    [][2]int
		want string
	}{
		{3, [][2]int{{0, 1}, {0, 2}, {2, 0}}, "[1]"}, {0, nil, "[]"}, {-3, nil, "[]"}, {math.MinInt, [][2]int{{1, 1}}, "[]"}, {2, nil, "[0 1]"}, {2, [][2]int{{7, 0}, {-1, 1}}, "[0 1]"}, {2, [][2]int{{1, 0}, {0, 0}}, "[]"},
	} {
		if got := fmt.Sprint(Alone(c.n, c.l)); got != c.want {
			t.Errorf("Alone(%d, %v) = %s", c.n, c.l, got)
		}
	}
}

func TestP32_3(t *testing.T) {
	r := rand.New(rand.NewSource(32))
	random := func() []api.Row {
		l := make([]api.Row, r.Intn(12))
		for i := range l {
			l[i] = api.Row{[]api.Value{{}, value.Num(1), value.Num(2), value.Str("a")}[r.Intn(4)], value.Num(r.Intn(2))}
		}
		return l
	}
	for range 3000 {
		a, b := random(), random()
		pairs := Nest(a, b)
		if want := fmt.Sprint(pairs); fmt.Sprint(Hash(a, b)) != want || fmt.Sprint(Merge(a, b)) != want {
			t.Fatalf("%v and %v: %v, %v, %v", a, b, pairs, Hash(a, b), Merge(a, b))
		}
		back := Nest(b, a)
		for i := range back {
			back[i][0], back[i][1] = back[i][1], back[i][0]
		}
		slices.SortFunc(back, func(x, y [2]int) int { return (x[0]-y[0])*100 + x[1] - y[1] })
		if fmt.Sprint(back) != fmt.Sprint(pairs) {
			t.Fatalf("%v and %v exchanged: %v", a, b, back)
		}
		seen := map[int]bool{}
		for i, p := range pairs {
			seen[p[0]] = true
			if i > 0 && (pairs[i-1][0] > p[0] || pairs[i-1][0] == p[0] && pairs[i-1][1] >= p[1]) {
				t.Fatalf("%v are not in order", pairs)
			}
		}
		alone := Alone(len(a), pairs)
		for _, i := range alone {
			if seen[i] {
				t.Fatalf("%d is paired", i)
			}
		}
		if len(alone)+len(seen) != len(a) {
			t.Fatalf("%v alone, %v", alone, pairs)
		}
	}
}
