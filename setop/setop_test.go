package setop

import (
	"fmt"
	"math/rand"
	"testing"

	"tabellion/api"
	"tabellion/value"
)

func rows(l ...int) []api.Row {
	var out []api.Row
	for _, n := range l {
		out = append(out, api.Row{value.Num(n)})
	}
	return out
}

func same(t *testing.T, what string, got, want []api.Row) {
	t.Helper()
	if fmt.Sprint(got) != fmt.Sprint(want) {
		t.Errorf("%s: %v, want %v", what, got, want)
	}
}

var odd = []api.Row{nil, {{}}, {{}, {}}, {value.Str("")}, {value.Str("a")}, {value.Str("a"), value.Str("")}, {{N: 1}}, {{S: "a"}}, {value.Bool(true)}, {value.Num(1)}}

func TestP34_1(t *testing.T) {
	a, b := rows(1, 1, 2), rows(1, 3)
	same(t, "union all", Union(a, b, true), rows(1, 1, 2, 1, 3))
	same(t, "union", Union(a, b, false), rows(1, 2, 3))
	same(t, "union of nothing", Union(nil, nil, false), nil)
	same(t, "union of different rows", Union(odd, odd, false), odd)
	r := Union(a, b, true)
	r[0][0] = value.Num(9)
	same(t, "the argument", a, rows(1, 1, 2))
}

func TestP34_2(t *testing.T) {
	a, b := rows(1, 1, 2), rows(1, 3)
	same(t, "intersect all", Inter(a, b, true), rows(1))
	same(t, "intersect", Inter(a, b, false), rows(1))
	same(t, "first ones", Inter(rows(3, 1, 3, 2, 3), rows(3, 2, 3), true), rows(3, 3, 2))
	same(t, "twice on the right", Inter(rows(1, 1), rows(1, 1), false), rows(1))
	same(t, "nothing", Inter(a, nil, true), nil)
	same(t, "odd rows", Inter(odd, odd, true), odd)
}

func TestP34_3(t *testing.T) {
	a, b := rows(1, 1, 2), rows(1, 3)
	same(t, "except all", Except(a, b, true), rows(1, 2))
	same(t, "except", Except(a, b, false), rows(2))
	same(t, "last ones", Except(rows(3, 1, 3, 2, 3), rows(3, 3), true), rows(1, 2, 3))
	same(t, "nothing on the right", Except(a, nil, false), rows(1, 2))
	same(t, "odd rows", Except(odd, odd[3:], true), odd[:3])
}

func count(l []api.Row, r api.Row) int {
	n := 0
	for _, x := range l {
		if value.Orders(x, r) == 0 {
			n++
		}
	}
	return n
}

func once(n int) int { return min(n, 1) }

func TestP34_4(t *testing.T) {
	r := rand.New(rand.NewSource(34))
	for range 3000 {
		a, b := make([]api.Row, r.Intn(9)), make([]api.Row, r.Intn(9))
		for i := range a {
			a[i] = odd[r.Intn(4)]
		}
		for i := range b {
			b[i] = odd[r.Intn(5)]
		}
		for _, x := range odd {
			m, n := count(a, x), count(b, x)
			got := []int{count(Union(a, b, true), x), count(Inter(a, b, true), x), count(Except(a, b, true), x), count(Union(a, b, false), x), count(Inter(a, b, false), x), count(Except(a, b, false), x)}
			want := []int{m + n, min(m, n), max(m-n, 0), once(m + n), once(m) * once(n), once(m) * (1 - once(n))}
			if fmt.Sprint(got) != fmt.Sprint(want) {
				t.Fatalf("%v of %v and %v: %v, want %v", x, a, b, got, want)
			}
		}
		for _, all := range []bool{true, false} {
			if !value.Bag(append(Inter(a, b, all), Except(a, b, all)...), unique(a, all)) {
				t.Fatalf("%v and %v: Inter and Except are not a", a, b)
			}
		}
	}
}

func TestP34_5(t *testing.T) {
	a, b := append(rows(1, 2, 1), odd...), append(rows(2), odd[:5]...)
	for _, all := range []bool{true, false} {
		if !value.Bag(append(Inter(a, b, all), Except(a, b, all)...), unique(a, all)) {
			t.Error("Inter and Except are not a")
		}
	}
}
