package types

import (
	"math/rand"
	"testing"

	"tabellion/api"
	"tabellion/value"
)

const (
	n, b, i, x = api.VNull, api.VBool, api.VInt, api.VText
	other      = 4
)

func TestP13_1(t *testing.T) {
	for _, k := range []int{n, b, i, x} {
		for _, l := range []int{n, b, i, x} {
			got, ok := Join(k, l)
			if ok != (k == l || k == n || l == n) || ok && got != max(k, l) || !ok && got != 0 {
				t.Errorf("Join(%d, %d) = %d %v", k, l, got, ok)
			}
		}
		for _, o := range []int{other, -1, 99} {
			if got, ok := Join(k, o); ok || got != 0 {
				t.Errorf("Join(%d, %d) = %d", k, o, got)
			}
			if got, ok := Join(o, k); ok || got != 0 {
				t.Errorf("Join(%d, %d) = %d", o, k, got)
			}
		}
	}
	if _, ok := Join(other, other); ok {
		t.Error("what is no kind fits nothing, not even itself")
	}
}

func TestP13_2(t *testing.T) {
	for _, c := range []struct {
		op   int
		l    []int
		want int
		err  api.Errno
	}{
		{0, nil, 0, api.ErrArg}, {api.EConst, nil, 0, api.ErrArg}, {api.ECol, []int{i}, 0, api.ErrArg}, {api.EFunc, []int{i}, 0, api.ErrArg}, {api.EInSub, []int{i}, 0, api.ErrArg}, {-1, []int{i}, 0, api.ErrArg}, {29, nil, 0, api.ErrArg},
		{api.ENeg, []int{i}, i, 0}, {api.ENeg, []int{n}, i, 0}, {api.ENeg, []int{x}, 0, api.ErrType}, {api.ENeg, []int{i, i}, 0, api.ErrCount}, {api.ENeg, nil, 0, api.ErrCount}, {api.ENeg, []int{other}, 0, api.ErrType},
		{api.ENot, []int{b}, b, 0}, {api.ENot, []int{n}, b, 0}, {api.ENot, []int{i}, 0, api.ErrType}, {api.ENot, []int{x, x}, 0, api.ErrCount},
		{api.EAdd, []int{i, n}, i, 0}, {api.ESub, []int{n, n}, i, 0}, {api.EMul, []int{i, b}, 0, api.ErrType}, {api.EDiv, []int{i}, 0, api.ErrCount}, {api.EMod, []int{x, i}, 0, api.ErrType}, {api.EMod, []int{i, i}, i, 0},
		{api.ECat, []int{x, x}, x, 0}, {api.ECat, []int{n, x}, x, 0}, {api.ECat, []int{i, x}, 0, api.ErrType}, {api.ECat, []int{x, x, x}, 0, api.ErrCount},
		{api.EEq, []int{i, n}, b, 0}, {api.ENe, []int{x, x}, b, 0}, {api.ELt, []int{b, b}, b, 0}, {api.ELe, []int{i, x}, 0, api.ErrType}, {api.EGt, []int{n, n}, b, 0}, {api.EGe, []int{i}, 0, api.ErrCount}, {api.EEq, []int{other, other}, 0, api.ErrType},
		{api.EAnd, []int{b, b}, b, 0}, {api.EOr, []int{n, b}, b, 0}, {api.EOr, []int{b, i}, 0, api.ErrType}, {api.EAnd, []int{b, b, b}, 0, api.ErrCount},
		{api.EIsNull, []int{x}, b, 0}, {api.EIsNull, []int{n}, b, 0}, {api.EIsNull, []int{other}, 0, api.ErrType}, {api.EIsNull, nil, 0, api.ErrCount},
		{api.ELike, []int{x, n}, b, 0}, {api.ELike, []int{x, i}, 0, api.ErrType}, {api.ELike, []int{x}, 0, api.ErrCount},
		{api.EIn, []int{i, n, i}, b, 0}, {api.EIn, []int{n, x, i}, 0, api.ErrType}, {api.EIn, []int{i}, 0, api.ErrCount}, {api.EIn, []int{i, x}, 0, api.ErrType},
		{api.EBetween, []int{x, n, x}, b, 0}, {api.EBetween, []int{n, i, x}, 0, api.ErrType}, {api.EBetween, []int{i, i}, 0, api.ErrCount}, {api.EBetween, []int{i, i, i, i}, 0, api.ErrCount},
		{api.ECase, []int{b, i}, i, 0}, {api.ECase, []int{b, i, x}, 0, api.ErrType}, {api.ECase, []int{b, n, n}, n, 0}, {api.ECase, []int{n, x, b, n, x}, x, 0}, {api.ECase, []int{i, x}, 0, api.ErrType}, {api.ECase, []int{b, x, x, x}, 0, api.ErrType},
		{api.ECase, []int{b}, 0, api.ErrCount}, {api.ECase, []int{b, x, b, i}, 0, api.ErrType}, {api.ECase, []int{b, other}, 0, api.ErrType},
	} {
		if got, err := Op(c.op, c.l); got != c.want || err != c.err {
			t.Errorf("Op(%d, %v) = %d %d, want %d %d", c.op, c.l, got, err, c.want, c.err)
		}
	}
}

func TestP13_3(t *testing.T) {
	for _, c := range []struct {
		name string
		l    []int
		want int
		err  api.Errno
	}{
		{"length", []int{x}, i, 0}, {"length", []int{n}, i, 0}, {"length", []int{i}, 0, api.ErrType}, {"length", []int{x, x}, 0, api.ErrCount}, {"length", nil, 0, api.ErrCount},
		{"lower", []int{x}, x, 0}, {"upper", []int{n}, x, 0}, {"upper", []int{b}, 0, api.ErrType}, {"lower", []int{i, i}, 0, api.ErrCount},
		{"abs", []int{i}, i, 0}, {"abs", []int{n}, i, 0}, {"abs", []int{x}, 0, api.ErrType}, {"abs", nil, 0, api.ErrCount},
		{"coalesce", []int{n}, n, 0}, {"coalesce", []int{n, x}, x, 0}, {"coalesce", []int{i, n, x}, 0, api.ErrType}, {"coalesce", nil, 0, api.ErrCount}, {"coalesce", []int{other}, 0, api.ErrType},
		{"nullif", []int{i, i}, i, 0}, {"nullif", []int{n, b}, b, 0}, {"nullif", []int{i, b}, 0, api.ErrType}, {"nullif", []int{i}, 0, api.ErrCount}, {"nullif", []int{i, i, i}, 0, api.ErrCount},
		{"", nil, 0, api.ErrName}, {"Length", []int{x}, 0, api.ErrName}, {"sum", []int{i}, 0, api.ErrName}, {"f", []int{other}, 0, api.ErrName},
	} {
		if got, err := Func(c.name, c.l); got != c.want || err != c.err {
			t.Errorf("Func(%s, %v) = %d %d", c.name, c.l, got, err)
		}
	}
}

func TestP13_4(t *testing.T) {
	for _, c := range []struct {
		name string
		kind int
		want int
		err  api.Errno
	}{
		{"count", x, i, 0}, {"count", n, i, 0}, {"count", other, 0, api.ErrType}, {"sum", i, i, 0}, {"sum", n, i, 0}, {"sum", x, 0, api.ErrType}, {"sum", b, 0, api.ErrType},
		{"min", x, x, 0}, {"max", b, b, 0}, {"min", n, n, 0}, {"max", other, 0, api.ErrType}, {"avg", i, 0, api.ErrName}, {"", other, 0, api.ErrName}, {"min", -1, 0, api.ErrType},
	} {
		if got, err := Agg(c.name, c.kind); got != c.want || err != c.err {
			t.Errorf("Agg(%s, %d) = %d %d", c.name, c.kind, got, err)
		}
	}
}

func TestP13_5(t *testing.T) {
	for _, c := range []struct {
		v    api.Value
		d    api.ColDef
		want api.Errno
	}{
		{value.Num(1), api.ColDef{Type: i}, 0}, {value.Num(1), api.ColDef{Type: x}, api.ErrType}, {api.Value{}, api.ColDef{Type: x}, 0}, {api.Value{}, api.ColDef{Type: x, NotNull: true}, api.ErrNull},
		{value.Str("a"), api.ColDef{Type: x, NotNull: true}, 0}, {value.Bool(true), api.ColDef{Type: i}, api.ErrType}, {value.Num(api.MaxNum + 1), api.ColDef{Type: x}, api.ErrArg}, {api.Value{N: 1}, api.ColDef{NotNull: true}, api.ErrArg},
		{value.Num(1), api.ColDef{Type: n}, api.ErrType}, {api.Value{Kind: other}, api.ColDef{Type: other}, api.ErrArg},
	} {
		if got := Fits(c.v, c.d); got != c.want {
			t.Errorf("Fits(%v, %v) = %d", c.v, c.d, got)
		}
	}
}

func TestP13_6(t *testing.T) {
	r := rand.New(rand.NewSource(13))
	names := []string{"length", "lower", "upper", "abs", "coalesce", "nullif"}
	accepted := 0
	for range 50000 {
		kinds, fewer := make([]int, 1+r.Intn(4)), make([]int, 0, 4)
		for j := range kinds {
			kinds[j] = r.Intn(4)
			fewer = append(fewer, kinds[j]*r.Intn(2))
		}
		op, name := r.Intn(30), names[r.Intn(len(names))]
		k, err := Op(op, kinds)
		if k2, err2 := Op(op, fewer); err == api.OK && (err2 != api.OK || k2 != k && k2 != n) {
			t.Fatalf("Op(%d, %v) = %d, with nulls %v: %d", op, kinds, k, fewer, k2)
		}
		k, err = Func(name, kinds)
		if k2, err2 := Func(name, fewer); err == api.OK && (err2 != api.OK || k2 != k && k2 != n) {
			t.Fatalf("Func(%s, %v) = %d, with nulls %v: %d", name, kinds, k, fewer, k2)
		}
		k, ok := joinAll(kinds...)
		r.Shuffle(len(kinds), func(a, b int) { kinds[a], kinds[b] = kinds[b], kinds[a] })
		if k2, ok2 := joinAll(kinds...); k != k2 || ok != ok2 {
			t.Fatalf("the join of %v depends on the order", kinds)
		}
		if ok {
			accepted++
		}
	}
	if accepted == 0 {
		t.Error("nothing was accepted")
	}
}
