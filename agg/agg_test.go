package agg

import (
	"math"
	"math/big"
	"math/rand"
	"testing"

	"tabellion/api"
	"tabellion/value"
)

var null = api.Value{}

func n(x int) api.Value    { return value.Num(x) }
func s(x string) api.Value { return value.Str(x) }

func agg(name string, distinct bool) api.Agg {
	return api.Agg{Name: name, Distinct: distinct, T: []api.Term{{}}}
}

const most = api.MaxNum

func TestP19_1(t *testing.T) {
	type values = []api.Value
	rows := api.Agg{Name: "count"}
	for i, c := range []struct {
		a    api.Agg
		l    values
		want api.Value
	}{
		{rows, nil, n(0)}, {rows, values{null, null}, n(2)}, {rows, values{null, n(1), {Kind: 9}, n(most + 1)}, n(4)}, {agg("count", false), values{null, null}, n(0)}, {agg("count", false), values{n(1), n(1), s("x"), {Kind: 9}, n(most + 1), s("\n")}, n(3)},
		{agg("count", true), values{n(1), n(1), s("x"), null}, n(2)}, {agg("count", true), nil, n(0)}, {api.Agg{Name: "count", Distinct: true}, values{null, null}, n(2)},
		{agg("sum", false), values{n(2), null, n(3)}, n(5)}, {agg("sum", false), nil, null}, {agg("sum", false), values{null}, null}, {agg("sum", false), values{s("x"), value.Bool(true)}, null}, {agg("sum", false), values{n(most), n(most), n(-most)}, n(most)},
		{agg("sum", false), values{n(most), n(1)}, null}, {agg("sum", false), values{n(-most), n(-1)}, null}, {agg("sum", false), values{n(-most), n(-most), n(most)}, n(-most)}, {agg("sum", false), values{n(most + 1), n(2)}, n(2)}, {agg("sum", false), values{n(5), n(-5)}, n(0)},
		{agg("sum", true), values{n(2), n(2), n(3)}, n(5)}, {agg("sum", true), values{n(most), n(most)}, n(most)}, {agg("sum", false), values{n(-7)}, n(-7)},
		{agg("min", false), values{n(3), s(""), n(-1), null, value.Bool(true)}, value.Bool(true)}, {agg("max", false), values{n(3), s(""), n(-1), null}, s("")}, {agg("max", false), values{n(-3), n(-2)}, n(-2)}, {agg("min", false), values{null, {N: -5}}, null}, {agg("max", true), values{n(3), n(3), n(1)}, n(3)},
		{agg("min", true), values{s("b"), s("a")}, s("a")}, {agg("min", true), nil, null}, {agg("avg", false), values{n(1)}, null}, {agg("", true), values{n(1)}, null}, {agg("Count", false), values{n(1)}, null},
		{api.Agg{Name: "sum"}, values{n(1), n(2)}, n(3)}, {api.Agg{Name: "max", Distinct: true}, values{n(1), n(2)}, n(2)}, {agg("min", false), values{n(0), n(5)}, n(0)},
	} {
		if got := Run(c.a, c.l); got != c.want {
			t.Errorf("%d: Run(%v, %v) = %v", i, c.a, c.l, got)
		}
	}
}

func TestP19_2(t *testing.T) {
	if Value(Start(agg("count", false))) != n(0) || Value(Start(agg("sum", false))) != null || Value(Start(api.Agg{Name: "count"})) != n(0) {
		t.Error("nothing was added")
	}
	x := Start(agg("sum", true))
	for i, c := range []struct {
		v    api.Value
		want api.Value
	}{{n(2), n(2)}, {n(3), n(5)}, {n(2), n(5)}, {null, n(5)}, {s("x"), n(5)}} {
		if x = Step(x, c.v); Value(x) != c.want {
			t.Errorf("%d: %v", i, Value(x))
		}
	}
	before := Step(Start(agg("count", true)), n(1))
	one, two := Step(before, n(0)), Step(before, n(2))
	if Value(one) != n(2) || Value(two) != n(2) || Value(Step(one, n(2))) != n(3) || Value(before) != n(1) {
		t.Error("an accumulator was changed")
	}
}

func TestP19_3(t *testing.T) {
	for _, a := range []api.Agg{agg("sum", false), agg("sum", true), agg("count", false), agg("count", true), {Name: "count"}, agg("min", false), agg("max", true)} {
		empty := Start(a)
		full := Step(Step(empty, n(4)), null)
		for _, x := range []api.Acc{Merge(empty, full), Merge(full, empty)} {
			if Value(x) != Value(full) {
				t.Errorf("%v: %v", a, Value(x))
			}
		}
		if got := Value(Merge(full, Step(empty, n(4)))); got != Run(a, []api.Value{n(4), null, n(4)}) {
			t.Errorf("%v: %v", a, got)
		}
	}
	for _, a := range []api.Agg{agg("sum", false), agg("min", true), {Name: "count"}} {
		for _, b := range []api.Agg{agg("sum", true), agg("max", false), agg("count", false)} {
			Value(Merge(Step(Start(a), n(1)), Step(Start(b), s("x"))))
		}
	}
	huge := api.Acc{Name: "sum", N: math.MaxInt, Hi: math.MinInt, Lo: math.MinInt}
	Value(Merge(huge, huge))
}

// exact computes an aggregate by big numbers.
func exact(l []api.Value) api.Value {
	sum := new(big.Int)
	for _, v := range l {
		sum.Add(sum, big.NewInt(int64(v.N)))
	}
	if len(l) == 0 || sum.CmpAbs(big.NewInt(most)) > 0 {
		return null
	}
	return n(int(sum.Int64()))
}

func TestP19_4(t *testing.T) {
	r := rand.New(rand.NewSource(19))
	pool := []api.Value{null, n(1), n(2), n(most), n(-most), n(most - 1), s("a"), s(""), value.Bool(true), {Kind: 7}}
	for range 5000 {
		l := make([]api.Value, r.Intn(12))
		for i := range l {
			l[i] = pool[r.Intn(len(pool))]
		}
		a := agg([]string{"count", "sum", "min", "max"}[r.Intn(4)], r.Intn(2) == 0)
		if r.Intn(8) == 0 {
			a = api.Agg{Name: "count"}
		}
		want := Run(a, l)
		r.Shuffle(len(l), func(i, j int) { l[i], l[j] = l[j], l[i] })
		accs := []api.Acc{Start(a), Start(a), Start(a)}
		for _, v := range l {
			i := r.Intn(3)
			accs[i] = Step(accs[i], v)
		}
		r.Shuffle(3, func(i, j int) { accs[i], accs[j] = accs[j], accs[i] })
		if got := Value(Merge(accs[0], Merge(accs[1], accs[2]))); got != want || Run(a, l) != want {
			t.Fatalf("%v of %v: %v, want %v", a, l, got, want)
		}
	}
	for range 2000 {
		l := make([]api.Value, r.Intn(5000))
		for i := range l {
			l[i] = n([]int{most, -most, 1, -1, most - 1}[r.Intn(5)])
		}
		if got := Run(agg("sum", false), l); got != exact(l) {
			t.Fatalf("a sum of %d values: %v, want %v", len(l), got, exact(l))
		}
	}
	many := make([]api.Value, 20001)
	for i := range many {
		many[i] = n(most)
		if i > 10000 {
			many[i] = n(-most)
		}
	}
	if got := Run(agg("sum", false), many); got != n(most) {
		t.Error(got)
	}
}
