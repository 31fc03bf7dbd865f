package scalar

import (
	"math"
	"math/rand"
	"strings"
	"testing"

	"tabellion/api"
	"tabellion/tri"
	"tabellion/types"
	"tabellion/value"
)

var (
	null     = api.Value{}
	yes, no  = value.Bool(true), value.Bool(false)
	n        = value.Num
	s        = value.Str
	most     = value.Num(api.MaxNum)
	hundred  = value.Str(strings.Repeat("x", 100))
	tooLarge = value.Num(api.MaxNum + 1)
)

func TestP17_1(t *testing.T) {
	type values = []api.Value
	for i, c := range []struct {
		op   int
		name string
		kids values
		want api.Value
	}{
		{api.ENeg, "", values{n(5)}, n(-5)}, {api.ENeg, "", values{s("x")}, null}, {api.ENeg, "", values{n(1), n(2)}, null}, {api.ENeg, "", nil, null}, {api.ENeg, "", values{n(math.MinInt)}, null}, {api.ENeg, "", values{yes}, null},
		{api.ENot, "", values{yes}, no}, {api.ENot, "", values{no}, yes}, {api.ENot, "", values{null}, null}, {api.ENot, "", values{n(1)}, null}, {api.ENot, "", values{yes, no}, null},
		{api.EIsNull, "", values{null}, yes}, {api.EIsNull, "", values{no}, no}, {api.EIsNull, "", values{{Kind: 9}}, no}, {api.EIsNull, "", nil, null},
		{api.EAdd, "", values{n(2), n(3)}, n(5)}, {api.EAdd, "", values{most, n(1)}, null}, {api.EAdd, "", values{null, n(1)}, null}, {api.EAdd, "", values{s("1"), n(1)}, null}, {api.EAdd, "", values{n(1)}, null}, {api.EAdd, "", values{yes, yes}, null},
		{api.ESub, "", values{n(2), n(3)}, n(-1)}, {api.EMul, "", values{n(2), n(3)}, n(6)}, {api.EMul, "", values{most, n(2)}, null}, {api.EDiv, "", values{n(-7), n(2)}, n(-3)}, {api.EDiv, "", values{n(7), n(0)}, null},
		{api.EMod, "", values{n(-7), n(2)}, n(-1)}, {api.EMod, "", values{n(7), n(0)}, null}, {api.EMod, "", values{tooLarge, n(2)}, null},
		{api.ECat, "", values{s("a"), s("b")}, s("ab")}, {api.ECat, "", values{hundred, s("")}, hundred}, {api.ECat, "", values{hundred, s("x")}, null}, {api.ECat, "", values{s("a"), null}, null}, {api.ECat, "", values{s("a"), n(1)}, null},
		{api.EEq, "", values{n(1), n(1)}, yes}, {api.EEq, "", values{null, null}, null}, {api.EEq, "", values{n(1), s("1")}, null}, {api.EEq, "", values{yes, yes}, yes}, {api.ENe, "", values{s("a"), s("b")}, yes}, {api.ENe, "", values{n(1), n(1)}, no},
		{api.ELt, "", values{n(1), n(2)}, yes}, {api.ELt, "", values{n(2), n(2)}, no}, {api.ELe, "", values{n(2), n(2)}, yes}, {api.ELe, "", values{n(3), n(2)}, no}, {api.EGt, "", values{s("b"), s("a")}, yes}, {api.EGt, "", values{s("a"), s("a")}, no},
		{api.EGe, "", values{yes, no}, yes}, {api.EGe, "", values{no, yes}, no}, {api.EGe, "", values{no, no}, yes}, {api.EGe, "", values{no}, null},
		{api.EAnd, "", values{yes, null}, null}, {api.EAnd, "", values{no, null}, no}, {api.EAnd, "", values{yes, n(1)}, null}, {api.EOr, "", values{yes, null}, yes}, {api.EOr, "", values{no, null}, null}, {api.EOr, "", values{no, no, yes}, null},
		{api.ELike, "", values{s("abc"), s("a%")}, yes}, {api.ELike, "", values{s("abc"), s("b%")}, no}, {api.ELike, "", values{s("abc"), null}, null}, {api.ELike, "", values{n(1), s("%")}, null},
		{api.EIn, "", values{n(1), n(1), null}, yes}, {api.EIn, "", values{null, n(1), null}, null}, {api.EIn, "", values{n(1), n(2), null}, null}, {api.EIn, "", values{n(1), n(2), n(3)}, no}, {api.EIn, "", values{n(1)}, null},
		{api.EBetween, "", values{n(2), n(1), n(3)}, yes}, {api.EBetween, "", values{n(1), n(1), n(1)}, yes}, {api.EBetween, "", values{n(4), null, n(3)}, no}, {api.EBetween, "", values{n(2), null, n(3)}, null}, {api.EBetween, "", values{n(2), n(1)}, null},
		{api.ECase, "", values{null, n(1), n(2)}, n(2)}, {api.ECase, "", values{yes, n(1), n(2)}, n(1)}, {api.ECase, "", values{no, n(1)}, null}, {api.ECase, "", values{no, n(1), yes, n(2), n(3)}, n(2)}, {api.ECase, "", values{yes}, null}, {api.ECase, "", values{yes, null, n(2)}, null},
		{api.EFunc, "abs", values{n(-3)}, n(3)}, {api.EFunc, "abs", values{n(3)}, n(3)}, {api.EFunc, "abs", values{n(math.MinInt)}, null}, {api.EFunc, "abs", values{tooLarge}, null}, {api.EFunc, "abs", values{s("x")}, null}, {api.EFunc, "abs", values{n(1), n(1)}, null},
		{api.EFunc, "length", values{s("abc")}, n(3)}, {api.EFunc, "length", values{n(3)}, null}, {api.EFunc, "length", values{null}, null}, {api.EFunc, "lower", values{s("AbZ@[")}, s("abz@[")}, {api.EFunc, "upper", values{s("aBz`{")}, s("ABZ`{")}, {api.EFunc, "upper", values{n(1)}, null},
		{api.EFunc, "coalesce", values{null, n(2), n(3)}, n(2)}, {api.EFunc, "coalesce", values{null, null}, null}, {api.EFunc, "coalesce", nil, null}, {api.EFunc, "nullif", values{n(1), n(1)}, null}, {api.EFunc, "nullif", values{n(1), n(2)}, n(1)},
		{api.EFunc, "nullif", values{n(1), null}, n(1)}, {api.EFunc, "nullif", values{null, null}, null}, {api.EFunc, "nullif", values{n(1)}, null}, {api.EFunc, "nullif", values{n(1), s("1")}, n(1)}, {api.EFunc, "f", values{n(1)}, null}, {api.EFunc, "", nil, null},
		{api.EConst, "", values{n(1)}, null}, {api.ECol, "", values{n(1)}, null}, {api.EAgg, "count", values{n(1)}, null}, {api.EScalar, "", values{n(1)}, null}, {api.EExists, "", nil, null}, {api.EInSub, "", values{n(1)}, null}, {0, "", values{n(1)}, null}, {99, "", nil, null}, {-1, "", nil, null},
	} {
		if got := Apply(c.op, c.name, c.kids); got != c.want {
			t.Errorf("%d: Apply(%d, %s, %v) = %v", i, c.op, c.name, c.kids, got)
		}
	}
}

func TestP17_2(t *testing.T) {
	col := func(depth, at int) api.Term { return api.Term{Op: api.ECol, Depth: depth, At: at} }
	constant := func(v api.Value) api.Term { return api.Term{Op: api.EConst, V: v} }
	env := []api.Row{{n(1), s("a")}, {yes}}
	for i, c := range []struct {
		t    api.Term
		want api.Value
	}{
		{constant(n(7)), n(7)}, {col(0, 0), n(1)}, {col(0, 1), s("a")}, {col(1, 0), yes}, {col(0, 2), null}, {col(2, 0), null}, {col(-1, 0), null}, {col(0, -1), null}, {col(1, 1), null},
		{api.Term{Op: api.EAdd, Kids: []api.Term{col(0, 0), constant(n(2))}}, n(3)}, {api.Term{Op: api.EFunc, Name: "upper", Kids: []api.Term{col(0, 1)}}, s("A")},
		{api.Term{Op: api.EScalar, Sub: []api.Rel{{Op: api.RRows, Rows: []api.Row{{n(1)}}}}}, null}, {api.Term{Op: api.EExists, Sub: []api.Rel{{}}}, null}, {api.Term{Op: api.EInSub, Kids: []api.Term{col(0, 0)}}, null},
		{api.Term{Op: api.EAnd, Kids: []api.Term{col(1, 0), {Op: api.EExists}}}, null}, {api.Term{}, null}, {api.Term{Op: api.EConst, V: n(1), Kids: []api.Term{col(0, 0)}}, n(1)},
	} {
		if got := Eval(c.t, env); got != c.want {
			t.Errorf("%d: %v", i, got)
		}
		if got := Truth(c.t, env); got != tri.From(c.want) {
			t.Errorf("%d: %v", i, got)
		}
	}
	if Eval(col(0, 0), nil) != null || Truth(col(1, 0), env) != api.Yes {
		t.Error("columns")
	}
}

func TestP17_3(t *testing.T) {
	l := []api.Value{null, yes, no, n(0), n(1), n(-7), n(2), most, n(-api.MaxNum), s(""), s("a"), s("aB%"), s("_"), hundred}
	pick := func(r *rand.Rand) api.Value { return l[r.Intn(len(l))] }
	not := map[int]int{api.EEq: api.ENe, api.ELt: api.EGe, api.ELe: api.EGt}
	names := []string{"abs", "length", "lower", "upper", "coalesce", "nullif"}
	r := rand.New(rand.NewSource(17))
	for range 50000 {
		kids := []api.Value{pick(r), pick(r), pick(r)}[:1+r.Intn(3)]
		op, name := api.ENeg+r.Intn(22), names[r.Intn(len(names))]
		var kinds []int
		for _, k := range kids {
			kinds = append(kinds, k.Kind)
		}
		got := Apply(op, name, kids)
		kind, err := types.Op(op, kinds)
		if op == api.EFunc {
			kind, err = types.Func(name, kinds)
		}
		if !value.Right(got) || err == api.OK && got != null && got.Kind != kind {
			t.Fatalf("Apply(%d, %s, %v) = %v", op, name, kids, got)
		}
		a, b, c := pick(r), pick(r), pick(r)
		for x, y := range not {
			if tri.Not(tri.From(Apply(x, "", []api.Value{a, b}))) != tri.From(Apply(y, "", []api.Value{a, b})) {
				t.Fatalf("the opposite of %d for %v and %v", x, a, b)
			}
		}
		between := Apply(api.EBetween, "", []api.Value{a, b, c})
		if between != Apply(api.EAnd, "", []api.Value{Apply(api.EGe, "", []api.Value{a, b}), Apply(api.ELe, "", []api.Value{a, c})}) {
			t.Fatalf("%v between %v and %v", a, b, c)
		}
		if tri.From(Apply(api.EOr, "", []api.Value{a, b})) != tri.Or(tri.From(a), tri.From(b)) || tri.From(Apply(api.EAnd, "", []api.Value{a, b})) != tri.And(tri.From(a), tri.From(b)) {
			t.Fatalf("and, or of %v and %v", a, b)
		}
	}
}
