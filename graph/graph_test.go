package graph

import (
	"fmt"
	"math"
	"math/bits"
	"math/rand"
	"testing"

	"tabellion/algebra"
	"tabellion/api"
	"tabellion/naive"
	"tabellion/value"
)

func col(at int) api.Term { return api.Term{Op: api.ECol, At: at, Type: api.VInt} }

func op(op int, kids ...api.Term) api.Term {
	return api.Term{Op: op, Kids: kids, Type: api.VBool}
}

func table(name string, n int) api.Rel {
	return api.Rel{Op: api.RTable, Table: name, Cols: make([]api.Col, n)}
}

func join(a, b api.Rel, l ...api.Term) api.Rel {
	return api.Rel{Op: api.RJoin, Cols: make([]api.Col, len(a.Cols)+len(b.Cols)), Kids: []api.Rel{a, b}, Terms: l}
}

func where(r api.Rel, t api.Term) api.Rel {
	return api.Rel{Op: api.RFilter, Cols: r.Cols, Kids: []api.Rel{r}, Terms: []api.Term{t}}
}

func sameLeaves(a, b []api.Rel) bool {
	for i := range a {
		if i >= len(b) || !algebra.SameRel(a[i], b[i]) {
			return false
		}
	}
	return len(a) == len(b)
}

func sameTerms(a, b []api.Term) bool {
	for i := range a {
		if i >= len(b) || !algebra.SameTerm(a[i], b[i]) {
			return false
		}
	}
	return len(a) == len(b)
}

func TestP27_1(t *testing.T) {
	a, b, c, d := table("a", 2), table("b", 1), table("c", 3), table("d", 1)
	and := func(x, y api.Term) api.Term { return op(api.EAnd, x, y) }
	eq := func(x, y int) api.Term { return op(api.EEq, col(x), col(y)) }
	left := api.Rel{Op: api.RLeft, Cols: make([]api.Col, 3), Kids: []api.Rel{join(a, b), c}, Terms: []api.Term{col(0)}}
	exists := api.Term{Op: api.EExists, Sub: []api.Rel{where(b, op(api.EEq, col(0), api.Term{Op: api.ECol, Depth: 1, At: 2, Type: api.VInt}))}}
	moved := api.Term{Op: api.EExists, Sub: []api.Rel{where(b, op(api.EEq, col(0), api.Term{Op: api.ECol, Depth: 1, At: 4, Type: api.VInt}))}}
	for i, x := range []struct {
		r      api.Rel
		leaves []api.Rel
		terms  []api.Term
	}{
		{a, []api.Rel{a}, nil}, {where(a, col(0)), []api.Rel{where(a, col(0))}, nil}, {join(a, b), []api.Rel{a, b}, nil}, {join(a, b, and(eq(0, 2), col(1))), []api.Rel{a, b}, []api.Term{eq(0, 2), col(1)}},
		{join(join(a, b, eq(0, 2)), join(c, d, eq(1, 3)), eq(0, 6)), []api.Rel{a, b, c, d}, []api.Term{eq(0, 2), eq(4, 6), eq(0, 6)}},
		{join(a, where(join(b, where(c, col(2)), eq(0, 1)), and(col(3), eq(1, 2))), and(col(0), eq(2, 5))), []api.Rel{a, b, where(c, col(2))}, []api.Term{eq(2, 3), col(5), eq(3, 4), col(0), eq(2, 5)}},
		{where(where(join(a, b), col(0)), and(col(1), col(2))), []api.Rel{a, b}, []api.Term{col(0), col(1), col(2)}}, {join(left, d), []api.Rel{left, d}, nil}, {left, []api.Rel{left}, nil}, {where(left, col(0)), []api.Rel{where(left, col(0))}, nil},
		{join(a, join(b, c, exists)), []api.Rel{a, b, c}, []api.Term{moved}},
		{api.Rel{Op: api.RJoin, Kids: []api.Rel{a}, Terms: []api.Term{col(0)}}, []api.Rel{{Op: api.RJoin, Kids: []api.Rel{a}, Terms: []api.Term{col(0)}}}, nil}, {api.Rel{Op: api.RFilter}, []api.Rel{{Op: api.RFilter}}, nil}, {api.Rel{}, []api.Rel{{}}, nil},
	} {
		leaves, terms := Leaves(x.r)
		if !sameLeaves(leaves, x.leaves) || !sameTerms(terms, x.terms) {
			t.Errorf("%d: %v %v", i, leaves, terms)
		}
	}
}

func TestP27_2(t *testing.T) {
	eq := func(x, y int) api.Term { return op(api.EEq, col(x), col(y)) }
	for i, c := range []struct {
		t      api.Term
		widths []int
		want   int
	}{
		{eq(0, 2), []int{2, 1}, 3}, {eq(0, 1), []int{2, 1}, 1}, {eq(2, 2), []int{2, 1}, 2}, {eq(0, 3), []int{2, 1}, 1}, {col(-1), []int{2}, 0}, {api.Term{}, []int{2}, 0}, {eq(0, 1), nil, 0}, {eq(0, 1), []int{1, -5, 0, 1}, 9}, {col(5), []int{math.MaxInt, 1}, 1},
		{col(1<<31 - 1), []int{math.MaxInt, 1}, 1}, {col(1 << 31), []int{math.MaxInt, 1}, 0}, {col(1 << 31), []int{1 << 40, 1 << 40}, 0}, {api.Term{Op: api.ECol, Depth: 1}, []int{1}, 0}, {col(61), ones(70), 1 << 61}, {col(62), ones(70), 0}, {eq(0, 1), []int{math.MinInt, 1, 1}, 6},
	} {
		if got := Mask(c.t, c.widths); got != c.want {
			t.Errorf("%d: %d", i, got)
		}
	}
	masks := []int{3, 12, 5, 0, 1}
	for _, c := range []struct {
		a, b int
		want bool
	}{{1, 2, true}, {2, 1, true}, {1, 4, true}, {2, 4, false}, {4, 8, true}, {1, 8, false}, {3, 4, true}, {9, 2, true}, {0, 3, false}, {2, 8, false}, {6, 9, true}} {
		if got := Linked(masks, c.a, c.b); got != c.want {
			t.Errorf("%d %d: %v", c.a, c.b, got)
		}
	}
	if Linked(nil, 1, 2) {
		t.Error("no terms")
	}
}

func ones(n int) []int {
	l := make([]int, n)
	for i := range l {
		l[i] = 1
	}
	return l
}

func TestP27_3(t *testing.T) {
	for set, want := range map[int]string{
		7: "[[1 6] [3 4] [5 2]]", 3: "[[1 2]]", 10: "[[2 8]]", 0: "[]", 1: "[]", 4: "[]", -1: "[]", math.MinInt: "[]", 511: "[]", math.MaxInt: "[]",
		1<<62 | 1<<61 | 4: fmt.Sprint([][2]int{{4, 1<<62 | 1<<61}, {4 | 1<<61, 1 << 62}, {4 | 1<<62, 1 << 61}}),
	} {
		if got := fmt.Sprint(Splits(set)); got != want {
			t.Errorf("%d: %s", set, got)
		}
	}
}

func TestP27_4(t *testing.T) {
	for _, set := range []int{3, 7, 0b10110, 255, 255 << 54 >> 1} {
		l := Splits(set)
		if n := bits.OnesCount(uint(set)); len(l) != 1<<(n-1)-1 {
			t.Errorf("%d splits of %d", len(l), set)
		}
		for i, s := range l {
			if s[0]&s[1] != 0 || s[0]|s[1] != set || s[1] == 0 || s[0]&(set&-set) == 0 || i > 0 && l[i-1][0] >= s[0] {
				t.Errorf("%d: %v", set, s)
			}
		}
	}
	r := rand.New(rand.NewSource(27))
	for range 300 {
		var db []api.Data
		for _, name := range []string{"a", "b", "c", "d"} {
			d := api.Data{Table: name}
			for range r.Intn(4) {
				d.Rows = append(d.Rows, api.Row{value.Num(r.Intn(2)), value.Num(r.Intn(2))})
			}
			db = append(db, d)
		}
		x := random(r, 3)
		leaves, terms := Leaves(x)
		all := leaves[0]
		for _, l := range leaves[1:] {
			all = join(all, l)
		}
		for _, c := range terms {
			all = where(all, c)
		}
		if a, b := naive.Run(x, nil, db), naive.Run(all, nil, db); !value.Bag(a, b) {
			t.Fatalf("%v: %v, %v", x, a, b)
		}
	}
}

// random makes a random join of tables with two columns.
func random(r *rand.Rand, deep int) api.Rel {
	if deep == 0 || r.Intn(4) == 0 {
		return table([]string{"a", "b", "c", "d"}[r.Intn(4)], 2)
	}
	term := func(n int) api.Term {
		return op(api.EAnd, op(api.EEq, col(r.Intn(n)), col(r.Intn(n))), op(api.ELe, col(r.Intn(n)), col(r.Intn(n))))
	}
	if r.Intn(3) == 0 {
		x := random(r, deep-1)
		return where(x, term(len(x.Cols)))
	}
	x := join(random(r, deep-1), random(r, deep-1))
	if r.Intn(2) == 0 {
		x.Terms = []api.Term{term(len(x.Cols))}
	}
	return x
}
