package fold

import (
	"math/rand"
	"testing"

	"tabellion/algebra"
	"tabellion/api"
	"tabellion/scalar"
	"tabellion/types"
	"tabellion/value"
)

var (
	null    = constant(api.Value{}, api.VNull)
	yes, no = constant(value.Bool(true), api.VBool), constant(value.Bool(false), api.VBool)
)

func n(x int) api.Term { return constant(value.Num(x), api.VInt) }

func col(at, kind int) api.Term { return api.Term{Op: api.ECol, At: at, Type: kind} }

func op(op, kind int, kids ...api.Term) api.Term {
	return api.Term{Op: op, Kids: kids, Type: kind}
}

func exists(r api.Rel) api.Term {
	return api.Term{Op: api.EExists, Sub: []api.Rel{r}, Type: api.VBool}
}

func not(t api.Term) api.Term    { return op(api.ENot, api.VBool, t) }
func and(a, b api.Term) api.Term { return op(api.EAnd, api.VBool, a, b) }
func or(a, b api.Term) api.Term  { return op(api.EOr, api.VBool, a, b) }

var (
	a, b = col(0, api.VBool), col(1, api.VBool)
	u    = col(3, api.VNull)
	less = op(api.ELt, api.VBool, n(1), n(2))
	more = op(api.EGt, api.VBool, n(1), n(2))
	sum  = op(api.EAdd, api.VInt, n(1), n(2))
)

func TestP18_1(t *testing.T) {
	for i, c := range []struct {
		t    api.Term
		want api.Value
		ok   bool
	}{
		{n(5), value.Num(5), true}, {sum, value.Num(3), true}, {null, api.Value{}, true}, {a, api.Value{}, false}, {and(no, a), api.Value{}, false}, {exists(api.Rel{}), api.Value{}, false}, {not(not(exists(api.Rel{}))), api.Value{}, false},
		{op(api.EDiv, api.VInt, n(1), n(0)), api.Value{}, true}, {api.Term{}, api.Value{}, true}, {api.Term{Op: api.EConst, V: value.Num(1), Kids: []api.Term{a}}, api.Value{}, false}, {api.Term{Op: api.EExists}, api.Value{}, true},
		{op(api.EAgg, api.VInt, n(1)), api.Value{}, true},
	} {
		if v, ok := Const(c.t); v != c.want || ok != c.ok {
			t.Errorf("%d: %v %v", i, v, ok)
		}
	}
}

func TestP18_2(t *testing.T) {
	filtered := api.Rel{Op: api.RFilter, Cols: make([]api.Col, 1), Kids: []api.Rel{{Op: api.RTable, Table: "t", Cols: make([]api.Col, 1)}}, Terms: []api.Term{less}}
	for i, c := range []struct{ t, want api.Term }{
		{not(not(a)), a}, {not(not(u)), not(not(u))}, {not(not(not(a))), not(a)}, {not(less), no}, {not(u), not(u)}, {op(api.ENot, api.VBool, not(a), a), op(api.ENot, api.VBool, not(a), a)},
		{and(a, less), a}, {and(less, a), a}, {and(a, more), no}, {and(more, a), no}, {and(u, yes), and(u, yes)}, {and(yes, u), and(yes, u)}, {and(u, no), no}, {and(a, null), and(a, null)}, {and(a, b), and(a, b)}, {and(less, u), and(yes, u)},
		{or(a, more), a}, {or(more, a), a}, {or(a, less), yes}, {or(yes, u), yes}, {or(u, no), or(u, no)}, {or(a, null), or(a, null)}, {and(null, no), no}, {or(null, no), null2(api.VBool)},
		{and(or(a, yes), or(b, no)), b}, {op(api.EAnd, api.VBool, a, no, no), op(api.EAnd, api.VBool, a, no, no)}, {op(api.EAnd, api.VBool, no), null2(api.VBool)},
		{op(api.EDiv, api.VInt, n(1), n(0)), null2(api.VInt)}, {op(api.EAdd, api.VInt, col(2, api.VInt), sum), op(api.EAdd, api.VInt, col(2, api.VInt), n(3))},
		{api.Term{Op: api.EConst, V: value.Num(1), Type: api.VInt, Name: "x", Depth: 3, At: 2}, n(1)}, {a, a},
		{op(api.ECase, api.VInt, more, col(2, api.VInt), a, sum), op(api.ECase, api.VInt, a, n(3))}, {op(api.ECase, api.VInt, a, n(1), less, n(2), b, n(3), n(4)), op(api.ECase, api.VInt, a, n(1), n(2))},
		{op(api.ECase, api.VInt, less, col(2, api.VInt), a, n(2)), col(2, api.VInt)}, {op(api.ECase, api.VInt, more, col(2, api.VInt)), null2(api.VInt)}, {op(api.ECase, api.VInt, null, a, no, b, col(2, api.VInt)), col(2, api.VInt)},
		{op(api.ECase, api.VInt, a, n(1), no, n(2), n(3)), op(api.ECase, api.VInt, a, n(1), n(3))}, {op(api.ECase, api.VInt, a, n(1), b, n(2)), op(api.ECase, api.VInt, a, n(1), b, n(2))},
		{op(api.ECase, api.VInt, a), op(api.ECase, api.VInt, a)}, {op(api.ECase, api.VInt, yes, n(1), a, n(2)), n(1)}, {op(api.ECase, api.VBool, a, less, b, more, not(not(a))), op(api.ECase, api.VBool, a, yes, b, no, a)},
		{exists(filtered), exists(filtered.Kids[0])}, {and(exists(filtered), sumIs(3)), exists(filtered.Kids[0])}, {op(api.EInSub, api.VBool, sum), null2(api.VBool)},
		{op(api.EAnd, api.VInt, more, a), no}, {op(api.ECase, api.VNull, more, a), null2(api.VNull)},
	} {
		if got := Term(c.t); !algebra.SameTerm(got, c.want) {
			t.Errorf("%d: %v becomes %v, want %v", i, c.t, got, c.want)
		}
	}
}

func null2(kind int) api.Term { return constant(api.Value{}, kind) }

func sumIs(x int) api.Term { return op(api.EEq, api.VBool, sum, n(x)) }

func TestP18_3(t *testing.T) {
	cols := make([]api.Col, 3)
	table := api.Rel{Op: api.RTable, Table: "t", Cols: cols}
	filter := func(r api.Rel, l ...api.Term) api.Rel {
		return api.Rel{Op: api.RFilter, Cols: cols, Kids: []api.Rel{r}, Terms: l}
	}
	none := api.Rel{Op: api.RRows, Cols: cols}
	group := api.Rel{Op: api.RGroup, Cols: cols[:2], Terms: []api.Term{sum}, Aggs: []api.Agg{{Name: "max", T: []api.Term{not(not(a))}}, {Name: "count"}}}
	folded := api.Rel{Op: api.RGroup, Cols: cols[:2], Terms: []api.Term{n(3)}, Aggs: []api.Agg{{Name: "max", T: []api.Term{a}}, {Name: "count"}}}
	over := func(g, r api.Rel) api.Rel {
		g.Kids = []api.Rel{r}
		return g
	}
	for i, c := range []struct{ r, want api.Rel }{
		{table, table}, {filter(table, less), table}, {filter(table, more), none}, {filter(table, null), none}, {filter(table, a), filter(table, a)}, {filter(table, and(a, less)), filter(table, a)}, {filter(filter(table, less), a), filter(table, a)},
		{over(group, filter(table, less)), over(folded, table)}, {filter(table, less, less), filter(table, yes, yes)}, {api.Rel{Op: api.RFilter, Terms: []api.Term{less}}, api.Rel{Op: api.RFilter, Terms: []api.Term{yes}}},
		{api.Rel{Op: api.RJoin, Cols: cols, Kids: []api.Rel{table, filter(table, more)}, Terms: []api.Term{less}}, api.Rel{Op: api.RJoin, Cols: cols, Kids: []api.Rel{table, none}, Terms: []api.Term{yes}}},
		{filter(table, n(1)), none}, {filter(table), filter(table)},
	} {
		if got := Rel(c.r); !algebra.SameRel(got, c.want) {
			t.Errorf("%d: %v becomes %v, want %v", i, c.r, got, c.want)
		}
	}
}

// random makes a random term of a kind, whose operands are as types requires.
func random(r *rand.Rand, kind, deep int) api.Term {
	if deep == 0 || r.Intn(5) == 0 {
		return leaf(r, kind)
	}
	bools := func() api.Term { return random(r, api.VBool, deep-1) }
	ints := func() api.Term { return random(r, api.VInt, deep-1) }
	texts := func() api.Term { return random(r, api.VText, deep-1) }
	same := random(r, kind, deep-1)
	if r.Intn(4) == 0 {
		kids := []api.Term{bools(), same, bools(), random(r, kind, deep-1), random(r, kind, deep-1)}
		return typed(op(api.ECase, 0, kids[:2+r.Intn(4)]...))
	}
	switch kind {
	case api.VInt:
		return typed(op(api.EAdd+r.Intn(5), 0, ints(), ints()))
	case api.VText:
		return typed(op(api.ECat, 0, texts(), texts()))
	}
	switch r.Intn(6) {
	case 0:
		return typed(op(api.EEq+r.Intn(6), 0, ints(), ints()))
	case 1:
		return typed(op(api.EIsNull, 0, texts()))
	case 2:
		return typed(not(bools()))
	case 3:
		return typed(not(not(bools())))
	}
	return typed(op(api.EAnd+r.Intn(2), 0, bools(), bools()))
}

// typed gives a term the type that its kids make.
func typed(t api.Term) api.Term {
	var kinds []int
	for _, k := range t.Kids {
		kinds = append(kinds, k.Type)
	}
	t.Type, _ = types.Op(t.Op, kinds)
	return t
}

func leaf(r *rand.Rand, kind int) api.Term {
	if r.Intn(5) == 0 {
		return null
	}
	if r.Intn(2) == 0 {
		return col(kind, kind)
	}
	switch kind {
	case api.VInt:
		return n(r.Intn(3))
	case api.VText:
		return constant(value.Str([]string{"", "a", "b"}[r.Intn(3)]), api.VText)
	}
	return constant(value.Bool(r.Intn(2) == 0), api.VBool)
}

func TestP18_4(t *testing.T) {
	r := rand.New(rand.NewSource(18))
	changed := 0
	for range 20000 {
		x := random(r, 1+r.Intn(3), 4)
		y := Term(x)
		if !algebra.SameTerm(x, y) {
			changed++
		}
		if !algebra.SameTerm(Term(y), y) {
			t.Fatalf("%v: not idempotent", x)
		}
		for range 5 {
			row := api.Row{{}, maybe(r, value.Bool(r.Intn(2) == 0)), maybe(r, value.Num(r.Intn(3))), maybe(r, value.Str("a"))}
			if v, w := scalar.Eval(x, []api.Row{row}), scalar.Eval(y, []api.Row{row}); v != w {
				t.Fatalf("%v becomes %v: %v, %v for %v", x, y, v, w, row)
			}
		}
	}
	if changed < 5000 {
		t.Error("only", changed, "terms were changed")
	}
	rel := api.Rel{Op: api.RFilter, Kids: []api.Rel{{Op: api.RFilter, Kids: []api.Rel{{Op: api.RTable, Table: "t"}}, Terms: []api.Term{a}}}, Terms: []api.Term{or(more, less)}}
	if once := Rel(rel); !algebra.SameRel(Rel(once), once) {
		t.Error("Rel is not idempotent")
	}
}

func maybe(r *rand.Rand, v api.Value) api.Value {
	if r.Intn(3) == 0 {
		return api.Value{}
	}
	return v
}
