package guess

import (
	"math"
	"math/big"
	"math/rand"
	"testing"

	"tabellion/api"
	"tabellion/value"
)

const m = api.Million

func col(at int) api.Term { return api.Term{Op: api.ECol, At: at} }

func num(n int) api.Term { return constant(value.Num(n)) }

func constant(v api.Value) api.Term { return api.Term{Op: api.EConst, V: v} }

func op(op int, kids ...api.Term) api.Term { return api.Term{Op: op, Kids: kids} }

func ends(l ...int) []api.Value {
	var out []api.Value
	for _, n := range l {
		out = append(out, value.Num(n))
	}
	return out
}

// stats are those of four columns; the total of the first one is 10.
var stats = []api.ColStat{
	{Nulls: 2, Distinct: 6, Common: []api.Often{{V: value.Num(7), N: 3}}, Ends: ends(1, 2, 3, 4, 5, 6, 7, 9)},
	{},
	{Nulls: 5},
	{Nulls: -4, Distinct: 1, Common: []api.Often{{V: value.Num(1), N: 2}, {V: value.Num(2), N: 2}, {V: value.Num(1), N: 1}}, Ends: []api.Value{value.Str("a"), value.Num(1), {}}},
}

func TestP24_1(t *testing.T) {
	yes, no, null := constant(value.Bool(true)), constant(value.Bool(false)), constant(api.Value{})
	a := col(0)
	for i, c := range []struct {
		t    api.Term
		want int
	}{
		{yes, m}, {no, 0}, {null, 0}, {num(1), 0}, {constant(api.Value{Kind: api.VBool, N: -5}), m}, {a, 333333}, {op(api.ENot, yes), 0}, {op(api.ENot, a), 666667}, {op(api.ENot, a, a), 333333}, {op(api.ENot), 333333},
		{op(api.EAnd, a, a), 111110}, {op(api.EAnd, yes, a), 333333}, {op(api.EAnd, no, a), 0}, {op(api.EAnd, a, a, a), 333333}, {op(api.EOr, a, a), 333333 + 333333 - 111110}, {op(api.EOr, yes, a), m}, {op(api.EOr, no, a), 333333}, {op(api.EOr, a), 333333},
		{op(api.EIsNull, a), 200000}, {op(api.EIsNull, col(1)), 0}, {op(api.EIsNull, col(2)), m}, {op(api.EIsNull, col(4)), 333333}, {op(api.EIsNull, api.Term{Op: api.ECol, Depth: 1}), 333333}, {op(api.EIsNull, num(1)), 333333}, {op(api.EIsNull, col(-1)), 333333}, {op(api.EIsNull, col(3)), 0},
		{op(api.EEq, a, num(7)), 300000}, {op(api.EEq, num(7), a), 300000}, {op(api.EEq, a, num(1)), 100000}, {op(api.EEq, a, null), 0}, {op(api.EEq, null, a), 0}, {op(api.EEq, a, a), 333333}, {op(api.EEq, num(1), num(1)), 333333}, {op(api.EEq, col(9), num(1)), 333333}, {op(api.EEq, col(9), null), 333333},
		{op(api.EEq, col(1), num(1)), 0}, {op(api.EEq, col(2), num(1)), 0}, {op(api.EEq, col(3), num(1)), 400000}, {op(api.EEq, col(3), num(9)), 0}, {op(api.EEq, a), 333333}, {op(api.EEq, a, num(1), num(1)), 333333},
		{op(api.ENe, a, num(7)), 500000}, {op(api.ENe, num(7), a), 500000}, {op(api.ENe, a, num(1)), 700000}, {op(api.ENe, a, null), 0}, {op(api.ENe, col(2), num(1)), 0}, {op(api.ENe, col(1), num(1)), m},
		{op(api.ELt, a, num(3)), 200000}, {op(api.ELe, a, num(3)), 300000}, {op(api.EGt, a, num(3)), 500000}, {op(api.EGe, a, num(3)), 600000}, {op(api.ELt, num(3), a), 500000}, {op(api.ELe, num(3), a), 600000}, {op(api.EGt, num(3), a), 200000}, {op(api.EGe, num(3), a), 300000},
		{op(api.ELt, a, num(0)), 0}, {op(api.EGe, a, num(0)), 800000}, {op(api.ELt, a, null), 0}, {op(api.ELt, col(1), num(1)), 333333}, {op(api.ELt, col(1), null), 0}, {op(api.ELt, col(3), num(2)), 333333}, {op(api.ELe, col(3), num(0)), 0}, {op(api.EGe, col(3), constant(value.Str("a"))), 333333},
		{op(api.ELike, a, a), 333333}, {op(api.EIn, a, num(1)), 333333}, {api.Term{}, 333333}, {op(api.EBetween, a, num(1), num(2)), 333333}, {api.Term{Op: api.EExists}, 333333},
	} {
		if got := Part(c.t, stats); got != c.want {
			t.Errorf("%d: Part(%v) = %d, want %d", i, c.t, got, c.want)
		}
	}
	huge := []api.ColStat{{Nulls: math.MaxInt, Distinct: math.MaxInt, Common: []api.Often{{V: value.Num(1), N: math.MaxInt}}}, {Nulls: math.MinInt, Distinct: math.MinInt, Common: []api.Often{{V: value.Num(1), N: math.MinInt}}}}
	if Part(op(api.EIsNull, col(0)), huge) != m || Part(op(api.EEq, col(0), num(1)), huge) != m || Part(op(api.EEq, col(1), num(1)), huge) != 0 {
		t.Error("numbers that are no sizes")
	}
	if Part(op(api.EIsNull, a), nil) != 333333 {
		t.Error("no statistics")
	}
}

func TestP24_2(t *testing.T) {
	for _, c := range []struct{ n, part, want int }{
		{10, 250000, 3}, {10, 0, 0}, {10, m, 10}, {10, 1, 1}, {0, m, 0}, {10, 2 * m, 10}, {10, -1, 0}, {-5, m, 0}, {math.MaxInt, m, api.MaxCost}, {api.MaxCost, 999999, 999999000000}, {4, 250000, 1}, {math.MinInt, math.MaxInt, 0}, {3, 333333, 1}, {4, 333333, 2},
	} {
		if got := Rows(c.n, c.part); got != c.want {
			t.Errorf("Rows(%d, %d) = %d", c.n, c.part, got)
		}
	}
	d := func(n int) api.ColStat { return api.ColStat{Distinct: n} }
	for _, c := range []struct{ l, r, a, b, want int }{
		{10, 20, 4, 5, 40}, {10, 20, 7, 3, 28}, {10, 20, 0, 0, 200}, {10, 20, -5, -9, 200}, {0, 20, 1, 1, 0}, {-1, 20, 1, 1, 0}, {math.MaxInt, math.MaxInt, 1, 1, api.MaxCost}, {api.MaxCost, api.MaxCost, api.MaxCost, 3, api.MaxCost},
		{api.MaxCost, 999999999999, math.MaxInt, 1, 999999999999}, {api.MaxCost, 3, 2, 1, api.MaxCost}, {7, 1, 8, 2, 0},
	} {
		if got := Pairs(c.l, c.r, d(c.a), d(c.b)); got != c.want {
			t.Errorf("Pairs(%v) = %d", c, got)
		}
	}
	for _, c := range []struct {
		n    int
		l    []int
		want int
	}{
		{10, nil, 1}, {0, nil, 0}, {10, []int{3}, 3}, {10, []int{3, 3}, 9}, {10, []int{3, 4}, 10}, {12, []int{3, 4}, 12}, {10, []int{0, -4, 2}, 2}, {-4, []int{3}, 0}, {math.MaxInt, []int{math.MaxInt, math.MaxInt}, api.MaxCost}, {5, []int{api.MaxCost, api.MaxCost, 1}, 5}, {api.MaxCost, []int{1000000, 999999}, 999999000000},
	} {
		var l []api.ColStat
		for _, n := range c.l {
			l = append(l, d(n))
		}
		if got := Groups(c.n, l); got != c.want {
			t.Errorf("Groups(%v) = %d", c, got)
		}
	}
}

func random(r *rand.Rand, deep int) api.Term {
	if deep == 0 || r.Intn(4) == 0 {
		return op([]int{api.EEq, api.ENe, api.ELt, api.EGe, api.EIsNull}[r.Intn(5)], col(r.Intn(5)), num(r.Intn(10)))
	}
	return op([]int{api.EAnd, api.EOr, api.ENot}[r.Intn(3)], random(r, deep-1), random(r, deep-1))
}

func TestP24_3(t *testing.T) {
	r := rand.New(rand.NewSource(24))
	for range 5000 {
		x, y := random(r, 4), random(r, 4)
		p, q := Part(x, stats), Part(y, stats)
		both, either := Part(op(api.EAnd, x, y), stats), Part(op(api.EOr, x, y), stats)
		if p < 0 || p > m || both > min(p, q) || either < max(p, q) || either > m {
			t.Fatalf("%d and %d: %d %d", p, q, both, either)
		}
		l, n, d := r.Int()>>r.Intn(63), r.Int()>>r.Intn(63), r.Int()>>r.Intn(63)
		want := new(big.Int).Mul(big.NewInt(int64(size(l))), big.NewInt(int64(size(n))))
		want.Div(want, big.NewInt(int64(max(size(d), 1))))
		if want.Cmp(big.NewInt(api.MaxCost)) > 0 {
			want = big.NewInt(api.MaxCost)
		}
		if got := Pairs(l, n, api.ColStat{Distinct: d}, api.ColStat{}); int64(got) != want.Int64() {
			t.Fatalf("Pairs(%d, %d, %d) = %d, want %d", l, n, d, got, want)
		}
		if rows := Rows(l, n); rows < 0 || rows > api.MaxCost {
			t.Fatalf("Rows(%d, %d) = %d", l, n, rows)
		}
	}
	deep := col(0)
	for range 5000 {
		deep = op(api.EOr, deep, col(1))
	}
	if Part(deep, stats) > m {
		t.Error("a deep condition")
	}
}
