package grouper

import (
	"fmt"
	"math/rand"
	"testing"

	"tabellion/api"
	"tabellion/value"
)

func keys(l ...int) []api.Row {
	var out []api.Row
	for _, n := range l {
		if n < 0 {
			out = append(out, api.Row{{}})
		} else {
			out = append(out, api.Row{value.Num(n)})
		}
	}
	return out
}

func TestP33_1(t *testing.T) {
	for i, c := range []struct {
		l                []api.Row
		groups, distinct string
	}{
		{keys(5, -1, 5, -1, 1), "[[0 2] [1 3] [4]]", fmt.Sprint(keys(5, -1, 1))}, {nil, "[]", "[]"}, {[]api.Row{nil, {}, {{}}}, "[[0 1] [2]]", fmt.Sprint([]api.Row{nil, {{}}})},
		{[]api.Row{{value.Num(1)}, {value.Str("1")}, {value.Num(1), {}}, {value.Num(1)}}, "[[0 3] [1] [2]]", fmt.Sprint([]api.Row{{value.Num(1)}, {value.Str("1")}, {value.Num(1), {}}})},
	} {
		if got := fmt.Sprint(Groups(c.l)); got != c.groups {
			t.Errorf("%d: %s", i, got)
		}
		if got := fmt.Sprint(Distinct(c.l)); got != c.distinct {
			t.Errorf("%d: %s", i, got)
		}
	}
	l := keys(1, 1)
	Distinct(l)[0][0] = value.Num(7)
	if l[0][0] != value.Num(1) {
		t.Error("Distinct shares memory")
	}
}

func TestP33_2(t *testing.T) {
	if got := fmt.Sprint(Sorted(keys(5, -1, 5, -1, 1))); got != "[[1 3] [4] [0 2]]" {
		t.Error(got)
	}
	if len(Sorted(nil)) != 0 {
		t.Error("no keys")
	}
	if got := fmt.Sprint(Sorted([]api.Row{{value.Str("a")}, {value.Num(1), value.Num(0)}, {value.Num(1)}, nil})); got != "[[3] [2] [1] [0]]" {
		t.Error(got)
	}
}

func TestP33_3(t *testing.T) {
	r := rand.New(rand.NewSource(33))
	for range 2000 {
		l := keys(r.Perm(r.Intn(20) + 1)...)
		for i := range l {
			l[i] = keys(r.Intn(4) - 1)[0]
		}
		seen := map[int]int{}
		var order []api.Row
		for _, g := range Sorted(l) {
			order = append(order, l[g[0]])
			for i, at := range g {
				seen[at]++
				if value.Orders(l[at], l[g[0]]) != 0 || i > 0 && g[i-1] >= at {
					t.Fatalf("%v in one group", g)
				}
			}
		}
		for i := range l {
			if seen[i] != 1 {
				t.Fatalf("%d is in %d groups", i, seen[i])
			}
		}
		if len(Groups(l)) != len(order) || len(Distinct(l)) != len(order) {
			t.Fatalf("%v", l)
		}
		r.Shuffle(len(l), func(i, j int) { l[i], l[j] = l[j], l[i] })
		for i, g := range Sorted(l) {
			if value.Orders(l[g[0]], order[i]) != 0 {
				t.Fatalf("the groups of %v depend on the order", l)
			}
		}
	}
}
