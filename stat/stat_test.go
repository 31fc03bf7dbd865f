package stat

import (
	"fmt"
	"math"
	"math/rand"
	"reflect"
	"testing"

	"tabellion/api"
	"tabellion/clone"
	"tabellion/value"
)

var n, s = value.Num, value.Str

func columnOf(l ...api.Value) api.ColStat {
	var rows []api.Row
	for _, v := range l {
		rows = append(rows, api.Row{v})
	}
	return Of("t", rows, 1, 0).Cols[0]
}

func TestP23_1(t *testing.T) {
	got := columnOf(n(3), api.Value{}, n(1), n(3))
	want := api.ColStat{Nulls: 1, Distinct: 2, Ends: []api.Value{n(1), n(1), n(3), n(3), n(3), n(3), n(3), n(3)}, Common: []api.Often{{V: n(3), N: 2}}}
	if !reflect.DeepEqual(got, want) {
		t.Errorf("%v", got)
	}
	if got := columnOf(api.Value{}, api.Value{}); !reflect.DeepEqual(got, api.ColStat{Nulls: 2}) {
		t.Errorf("%v", got)
	}
	if got := columnOf(); !reflect.DeepEqual(got, api.ColStat{}) {
		t.Errorf("%v", got)
	}
	var many []api.Value
	for i, count := range []int{1, 2, 3, 2, 3, 2, 1, 9} { // value i occurs so often
		for range count {
			many = append(many, n(i))
		}
	}
	got = columnOf(many...) // 23 values: the indices are 2, 5, 8, 11, 14, 17, 20, 22
	if fmt.Sprint(got.Common) != fmt.Sprint([]api.Often{{V: n(7), N: 9}, {V: n(2), N: 3}, {V: n(4), N: 3}, {V: n(1), N: 2}}) || got.Distinct != 8 {
		t.Errorf("%v", got)
	}
	if want := []api.Value{n(1), n(2), n(4), n(5), n(7), n(7), n(7), n(7)}; fmt.Sprint(got.Ends) != fmt.Sprint(want) {
		t.Errorf("%v", got.Ends)
	}
	x := Of("x", []api.Row{{n(1), s("a")}, {n(2)}, nil, {n(2), s("a"), n(9)}}, 2, 5)
	if x.Table != "x" || x.Rows != 4 || x.Pages != 5 || len(x.Cols) != 2 || x.Cols[0].Nulls != 1 || x.Cols[1].Nulls != 2 || x.Cols[1].Common[0] != (api.Often{V: s("a"), N: 2}) {
		t.Errorf("%v", x)
	}
	for width, want := range map[int]int{-1: 0, 0: 0, math.MinInt: 0, 16: 16, 17: 16, math.MaxInt: 16} {
		if got := Of("", nil, width, 0); len(got.Cols) != want {
			t.Errorf("width %d: %d columns", width, len(got.Cols))
		}
	}
	if Of("", nil, 0, -7).Pages != 0 || Of("", nil, 0, math.MaxInt).Pages != math.MaxInt {
		t.Error("pages")
	}
	odd := columnOf(api.Value{N: 1}, api.Value{Kind: 9}, api.Value{N: 1})
	if odd.Nulls != 0 || odd.Distinct != 2 || odd.Common[0] != (api.Often{V: api.Value{N: 1}, N: 2}) {
		t.Errorf("%v", odd)
	}
}

func TestP23_2(t *testing.T) {
	good := func() api.Stat {
		var rows []api.Row
		for _, x := range []int{1, 1, 1, 2, 2, 3, 3, 4, 4, 5, 5, 6} {
			rows = append(rows, api.Row{n(x)}, api.Row{{}})
		}
		return Of("t", rows, 1, 3)
	}
	if !Right(good()) || !Right(api.Stat{}) || !Right(Of("t", nil, 5, 0)) {
		t.Fatal("right statistics are rejected")
	}
	for i, spoil := range []func(*api.Stat, *api.ColStat){
		func(s *api.Stat, c *api.ColStat) { s.Rows = -1 },
		func(s *api.Stat, c *api.ColStat) { s.Rows = api.MaxCost + 1 },
		func(s *api.Stat, c *api.ColStat) { s.Rows = 22 },
		func(s *api.Stat, c *api.ColStat) { s.Pages = -1 },
		func(s *api.Stat, c *api.ColStat) { s.Pages = api.MaxCost + 1 },
		func(s *api.Stat, c *api.ColStat) { c.Nulls = -1 },
		func(s *api.Stat, c *api.ColStat) { c.Nulls = 14 },
		func(s *api.Stat, c *api.ColStat) { c.Distinct = -1 },
		func(s *api.Stat, c *api.ColStat) { c.Distinct = 3 },
		func(s *api.Stat, c *api.ColStat) { c.Distinct = 8 },
		func(s *api.Stat, c *api.ColStat) { c.Distinct = math.MaxInt },
		func(s *api.Stat, c *api.ColStat) { c.Nulls, c.Distinct = math.MaxInt, math.MaxInt },
		func(s *api.Stat, c *api.ColStat) { c.Common = append(c.Common, api.Often{V: n(6), N: 2}) },
		func(s *api.Stat, c *api.ColStat) { c.Common[0].N = 5 },
		func(s *api.Stat, c *api.ColStat) { c.Common[0].N = math.MaxInt },
		func(s *api.Stat, c *api.ColStat) { c.Common[3].N = 1 },
		func(s *api.Stat, c *api.ColStat) { c.Common[0], c.Common[1] = c.Common[1], c.Common[0] },
		func(s *api.Stat, c *api.ColStat) { c.Common[1], c.Common[2] = c.Common[2], c.Common[1] },
		func(s *api.Stat, c *api.ColStat) { c.Common[1].V = c.Common[0].V },
		func(s *api.Stat, c *api.ColStat) { c.Common[2].V = c.Common[1].V },
		func(s *api.Stat, c *api.ColStat) { c.Common[0].V = api.Value{} },
		func(s *api.Stat, c *api.ColStat) { c.Common[0].V = n(api.MaxNum + 1) },
		func(s *api.Stat, c *api.ColStat) { c.Ends = nil },
		func(s *api.Stat, c *api.ColStat) { c.Ends = c.Ends[1:] },
		func(s *api.Stat, c *api.ColStat) { c.Ends = append(c.Ends, n(6)) },
		func(s *api.Stat, c *api.ColStat) { c.Ends[0] = n(9) },
		func(s *api.Stat, c *api.ColStat) { c.Ends[0] = api.Value{} },
		func(s *api.Stat, c *api.ColStat) { c.Ends[7].S = "x" },
		func(s *api.Stat, c *api.ColStat) { c.Distinct, c.Common = 0, nil },
	} {
		bad := good()
		spoil(&bad, &bad.Cols[0])
		if Right(bad) {
			t.Errorf("%d is accepted: %v", i, bad)
		}
	}
	more := good()
	more.Rows = 25
	if !Right(more) {
		t.Error("more rows than values")
	}
}

func TestP23_3(t *testing.T) {
	l := []api.Stat{{Table: "a", Rows: 1}, {Table: "b", Rows: 2, Cols: []api.ColStat{{Nulls: 1}}}, {Table: "b", Rows: 3}}
	if got, ok := Find(l, "b"); !ok || !reflect.DeepEqual(got, l[1]) {
		t.Error(got, ok)
	}
	if got, ok := Find(l, "c"); ok || !reflect.DeepEqual(got, api.Stat{}) {
		t.Error(got, ok)
	}
}

func TestP23_4(t *testing.T) {
	r := rand.New(rand.NewSource(23))
	for range 1000 {
		rows := make([]api.Row, r.Intn(30))
		for i := range rows {
			rows[i] = api.Row{n(r.Intn(4)), []api.Value{{}, s("a"), s("b"), value.Bool(true), n(r.Intn(100))}[r.Intn(5)]}[:r.Intn(3)]
		}
		x := Of("t", rows, 2, r.Intn(5))
		turned := clone.Rows(rows)
		r.Shuffle(len(turned), func(i, j int) { turned[i], turned[j] = turned[j], turned[i] })
		if !Right(x) || !reflect.DeepEqual(Of("t", turned, 2, x.Pages), x) {
			t.Fatalf("%v of %v", x, rows)
		}
	}
}
