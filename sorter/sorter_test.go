package sorter

import (
	"fmt"
	"math/rand"
	"testing"

	"tabellion/api"
	"tabellion/clone"
	"tabellion/value"
)

func row(l ...int) api.Row {
	var r api.Row
	for _, n := range l {
		r = append(r, value.Num(n))
	}
	return r
}

func rows(l ...api.Row) []api.Row { return l }

func same(a, b any) bool { return fmt.Sprint(a) == fmt.Sprint(b) }

func TestP31_1(t *testing.T) {
	down := []api.By{{At: 1, Down: true}}
	for i, c := range []struct {
		a, b api.Row
		keys []api.By
		want bool
	}{
		{row(1, 5), row(0, 4), down, true}, {row(0, 4), row(1, 5), down, false}, {row(0, 5), row(1, 5), down, true}, {row(1, 5), row(0, 5), down, false}, {row(0, 5), row(0, 5), down, false}, {row(1), row(2), nil, true}, {row(1), row(1, 0), nil, true},
		{row(5, 1), row(4, 2), []api.By{{At: 1}}, true}, {row(5, 1), row(4, 1), []api.By{{At: 1}, {At: 0}}, false}, {row(4, 1), row(5, 1), []api.By{{At: 1}, {At: 0}}, true}, {row(4, 1), row(5, 1), []api.By{{At: 1}, {At: 0, Down: true}}, false},
		{row(1), row(0, 9), down, false}, {row(1), row(2), []api.By{{At: 7}, {At: -1}}, true}, {row(1, 3), row(2, 2), []api.By{{At: 7}, {At: 1}}, false}, {api.Row{{}}, row(-9), []api.By{{At: 0}}, true}, {api.Row{{}}, row(-9), []api.By{{At: 0, Down: true}}, false}, {nil, nil, down, false},
	} {
		if got := Before(c.a, c.b, c.keys); got != c.want {
			t.Errorf("%d: %v", i, got)
		}
	}
}

func TestP31_2(t *testing.T) {
	l := rows(row(2, 1), row(1, 2), row(3, 2), row(1, 1))
	if got := Sort(l, []api.By{{At: 1, Down: true}}); !same(got, rows(row(1, 2), row(3, 2), row(1, 1), row(2, 1))) {
		t.Error(got)
	}
	got := Sort(l, nil)
	if !same(got, rows(row(1, 1), row(1, 2), row(2, 1), row(3, 2))) || len(Sort(nil, nil)) != 0 {
		t.Error(got)
	}
	got[0][0] = value.Num(9)
	if l[3][0] != value.Num(1) {
		t.Error("the argument was changed")
	}
	Sort(rows(row(1), row(0, 2), nil, row(5, 1), row(2)), []api.By{{At: 1}, {At: 9}, {At: -1}})
}

func TestP31_3(t *testing.T) {
	l := rows(row(3), row(1), row(2))
	for room, want := range map[int][][]api.Row{
		2: {rows(row(1), row(3)), rows(row(2))}, 3: {rows(row(1), row(2), row(3))}, 9: {rows(row(1), row(2), row(3))}, 1: {rows(row(3)), rows(row(1)), rows(row(2))},
		0: {rows(row(3)), rows(row(1)), rows(row(2))}, -5: {rows(row(3)), rows(row(1)), rows(row(2))},
	} {
		if got := Runs(l, nil, room); !same(got, want) {
			t.Errorf("room %d: %v", room, got)
		}
	}
	if len(Runs(nil, nil, 3)) != 0 {
		t.Error("no rows")
	}
}

// slow merges by the definition.
func slow(runs [][]api.Row, keys []api.By) []api.Row {
	runs = append([][]api.Row{}, runs...)
	var out []api.Row
	for {
		best := -1
		for i, r := range runs {
			if len(r) > 0 && (best < 0 || Before(r[0], runs[best][0], keys)) {
				best = i
			}
		}
		if best < 0 {
			return out
		}
		out = append(out, runs[best][0])
		runs[best] = runs[best][1:]
	}
}

func random(r *rand.Rand, n int) []api.Row {
	l := make([]api.Row, r.Intn(n))
	for i := range l {
		l[i] = api.Row{value.Num(r.Intn(3)), []api.Value{{}, value.Str("a"), value.Bool(true)}[r.Intn(3)]}
	}
	return l
}

func TestP31_4(t *testing.T) {
	if got := Merge([][]api.Row{rows(row(3), row(1)), rows(row(2))}, nil); !same(got, rows(row(2), row(3), row(1))) {
		t.Error(got)
	}
	if len(Merge(nil, nil)) != 0 || len(Merge([][]api.Row{nil, {}}, nil)) != 0 {
		t.Error("no rows")
	}
	r := rand.New(rand.NewSource(31))
	for range 2000 {
		runs := make([][]api.Row, r.Intn(6))
		for i := range runs {
			runs[i] = random(r, 6)
		}
		keys := []api.By{{At: r.Intn(2), Down: r.Intn(2) == 0}}
		if got := Merge(runs, keys); !same(got, slow(runs, keys)) {
			t.Fatalf("%v: %v", runs, got)
		}
	}
}

func TestP31_5(t *testing.T) {
	r := rand.New(rand.NewSource(32))
	for range 2000 {
		l := random(r, 30)
		keys := []api.By{{At: r.Intn(2), Down: r.Intn(2) == 0}, {At: r.Intn(2), Down: r.Intn(2) == 0}}[:r.Intn(3)]
		got := Sort(l, keys)
		for i := 1; i < len(got); i++ {
			if Before(got[i], got[i-1], keys) {
				t.Fatalf("%v sorts before its predecessor", got[i])
			}
			if !Before(got[i-1], got[i], keys) && value.Orders(got[i-1], got[i]) != 0 {
				t.Fatal("rows that are equivalent, but not equal")
			}
		}
		turned := clone.Rows(l)
		r.Shuffle(len(turned), func(i, j int) { turned[i], turned[j] = turned[j], turned[i] })
		if !value.Bag(got, l) || !same(Sort(turned, keys), got) || !same(Merge(Runs(l, keys, r.Intn(8)), keys), got) {
			t.Fatalf("%v by %v: %v", l, keys, got)
		}
	}
	many := make([][]api.Row, 30000)
	for i := range many {
		many[i] = rows(row(i % 7))
	}
	if got := Merge(many, nil); len(got) != 30000 || got[0][0] != value.Num(0) {
		t.Error(len(got))
	}
}
