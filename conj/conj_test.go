package conj

import (
	"fmt"
	"math/rand"
	"testing"

	"tabellion/algebra"
	"tabellion/api"
	"tabellion/scalar"
	"tabellion/tri"
	"tabellion/value"
)

func col(depth, at int) api.Term { return api.Term{Op: api.ECol, Depth: depth, At: at, Type: api.VInt} }

func num(n int) api.Term { return api.Term{Op: api.EConst, V: value.Num(n), Type: api.VInt} }

func op(op int, kids ...api.Term) api.Term {
	return api.Term{Op: op, Kids: kids, Type: api.VBool}
}

func and(a, b api.Term) api.Term { return op(api.EAnd, a, b) }
func eq(a, b api.Term) api.Term  { return op(api.EEq, a, b) }

// sub is a term with a query in which columns of depth 1 are the term's own.
func sub(l ...api.Term) api.Term {
	table := api.Rel{Op: api.RTable, Table: "t"}
	group := api.Rel{Op: api.RGroup, Kids: []api.Rel{table}, Terms: l[:1], Aggs: []api.Agg{{Name: "sum", T: l[1:2]}}}
	return api.Term{Op: api.EExists, Sub: []api.Rel{{Op: api.RFilter, Kids: []api.Rel{group}, Terms: l[2:]}}, Type: api.VBool}
}

func same(a, b []api.Term) bool {
	if len(a) != len(b) {
		return false
	}
	for i := range a {
		if !algebra.SameTerm(a[i], b[i]) {
			return false
		}
	}
	return true
}

var a, b, c = col(0, 0), col(0, 1), col(0, 2)

func TestP21_1(t *testing.T) {
	for i, x := range []struct {
		t    api.Term
		want []api.Term
	}{
		{and(and(a, b), c), []api.Term{a, b, c}}, {and(a, and(b, c)), []api.Term{a, b, c}}, {a, []api.Term{a}}, {op(api.EOr, and(a, b), c), []api.Term{op(api.EOr, and(a, b), c)}},
		{op(api.EAnd, a, b, c), []api.Term{op(api.EAnd, a, b, c)}}, {op(api.EAnd), []api.Term{op(api.EAnd)}}, {and(a, op(api.EAnd, and(b, c))), []api.Term{a, op(api.EAnd, and(b, c))}},
	} {
		if got := Split(x.t); !same(got, x.want) {
			t.Errorf("%d: %v", i, got)
		}
	}
	yes := api.Term{Op: api.EConst, V: value.Bool(true), Type: api.VBool}
	for i, x := range []struct {
		l    []api.Term
		want api.Term
	}{{nil, yes}, {[]api.Term{num(1)}, num(1)}, {[]api.Term{a, b}, and(a, b)}, {[]api.Term{a, b, and(b, c)}, and(and(a, b), and(b, c))}} {
		if got := Join(x.l); !algebra.SameTerm(got, x.want) {
			t.Errorf("%d: %v", i, got)
		}
	}
}

func TestP21_2(t *testing.T) {
	deep := sub(col(1, 5), col(1, 3), and(col(0, 9), col(2, 7)), sub(col(2, 4), col(1, 8), col(3, 6)))
	for i, x := range []struct {
		t     api.Term
		depth int
		want  string
	}{
		{eq(b, op(api.EAdd, a, b)), 0, "[0 1]"}, {num(1), 0, "[]"}, {a, 1, "[]"}, {and(col(1, 4), a), 1, "[4]"}, {deep, 0, "[3 4 5]"}, {deep, 1, "[6 7]"}, {deep, -1, "[8 9]"}, {deep, 2, "[]"}, {and(deep, c), 0, "[2 3 4 5]"}, {col(-1, -3), -1, "[-3]"},
	} {
		if got := fmt.Sprint(Uses(x.t, x.depth)); got != x.want {
			t.Errorf("%d: %s", i, got)
		}
	}
	for i, x := range []struct {
		t        api.Term
		from, to int
		want     bool
	}{
		{eq(a, b), 0, 2, true}, {eq(a, b), 0, 1, false}, {eq(a, b), 1, 2, false}, {num(1), 5, 3, true}, {col(1, 9), 0, 0, true}, {deep, 3, 6, true}, {deep, 4, 6, false}, {deep, 3, 5, false}, {and(deep, c), 2, 6, true}, {and(deep, c), 3, 6, false},
	} {
		if got := Within(x.t, x.from, x.to); got != x.want {
			t.Errorf("%d: %v", i, got)
		}
	}
}

func TestP21_3(t *testing.T) {
	deep := func(x, y, z int) api.Term {
		return and(col(0, x), sub(col(1, y), col(0, 0), sub(col(2, z), col(1, 0), col(0, 1), col(3, 0)), col(2, 0)))
	}
	for i, x := range []struct {
		t     api.Term
		depth int
		at    []int
		want  api.Term
	}{
		{eq(a, b), 0, []int{1, 0}, eq(b, a)}, {eq(a, c), 0, []int{7}, eq(col(0, 7), c)}, {eq(a, b), 1, []int{7, 7}, eq(a, b)}, {col(1, 1), 1, []int{4, 5}, col(1, 5)}, {col(0, -1), 0, []int{4}, col(0, -1)}, {a, 0, nil, a},
		{deep(0, 1, 2), 0, []int{5, 6, 7}, deep(5, 6, 7)}, {a, 0, []int{-9}, col(0, -9)},
	} {
		if got := Move(x.t, x.depth, x.at); !algebra.SameTerm(got, x.want) {
			t.Errorf("%d: %v", i, got)
		}
	}
}

func TestP21_4(t *testing.T) {
	for i, x := range []struct {
		t    api.Term
		cut  int
		l, r api.Term
		ok   bool
	}{
		{eq(c, a), 1, a, b, true}, {eq(a, c), 1, a, b, true}, {eq(a, c), 2, a, a, true}, {eq(a, b), 2, api.Term{}, api.Term{}, false}, {eq(b, c), 1, api.Term{}, api.Term{}, false}, {eq(b, c), 0, api.Term{}, api.Term{}, false}, {eq(a, num(1)), 1, api.Term{}, api.Term{}, false},
		{eq(num(1), c), 1, api.Term{}, api.Term{}, false}, {eq(op(api.EAdd, a, b), op(api.EAdd, c, col(1, 0))), 2, op(api.EAdd, a, b), op(api.EAdd, a, col(1, 0)), true}, {eq(op(api.EAdd, a, c), c), 1, api.Term{}, api.Term{}, false},
		{eq(a, op(api.EAdd, a, c)), 1, api.Term{}, api.Term{}, false}, {op(api.ELt, a, c), 1, api.Term{}, api.Term{}, false}, {op(api.EEq, a, b, c), 1, api.Term{}, api.Term{}, false}, {eq(and(a, sub(num(1), num(1))), c), 1, api.Term{}, api.Term{}, false},
		{eq(col(1, 0), c), 1, api.Term{}, api.Term{}, false}, {eq(op(api.EAdd, col(1, 5), a), c), 1, op(api.EAdd, col(1, 5), a), b, true},
	} {
		l, r, ok := Pair(x.t, x.cut)
		if ok != x.ok || !algebra.SameTerm(l, x.l) || !algebra.SameTerm(r, x.r) {
			t.Errorf("%d: %v %v %v", i, l, r, ok)
		}
	}
}

func random(r *rand.Rand, deep int) api.Term {
	if deep == 0 || r.Intn(4) == 0 {
		return []api.Term{a, b, c, eq(a, b), op(api.ELt, b, c), {Op: api.EConst}}[r.Intn(6)]
	}
	return op([]int{api.EAnd, api.EAnd, api.EOr}[r.Intn(3)], random(r, deep-1), random(r, deep-1))
}

func TestP21_5(t *testing.T) {
	r := rand.New(rand.NewSource(21))
	for range 5000 {
		x := random(r, 4)
		row := make(api.Row, 3)
		for i := range row {
			row[i] = []api.Value{{}, value.Bool(true), value.Bool(false)}[r.Intn(3)]
		}
		var truths []int
		for _, p := range Split(x) {
			truths = append(truths, scalar.Truth(p, []api.Row{row}))
		}
		if truth := scalar.Truth(x, []api.Row{row}); tri.All(truths) != truth || scalar.Truth(Join(Split(x)), []api.Row{row}) != truth {
			t.Fatalf("%v for %v", x, row)
		}
		at := r.Perm(3)
		moved := make(api.Row, 3)
		for i := range at {
			moved[at[i]] = row[i]
		}
		if scalar.Eval(Move(x, 0, at), []api.Row{moved}) != scalar.Eval(x, []api.Row{row}) {
			t.Fatalf("%v moved by %v for %v", x, at, row)
		}
	}
}
