package access

import (
	"fmt"
	"math/rand"
	"reflect"
	"testing"

	"tabellion/api"
	"tabellion/parse"
	"tabellion/scalar"
	"tabellion/schema"
	"tabellion/stat"
	"tabellion/value"
)

func col(at int) api.Term { return api.Term{Op: api.ECol, At: at, Type: api.VInt} }

func num(n int) api.Term { return constantTerm(value.Num(n)) }

func constantTerm(v api.Value) api.Term { return api.Term{Op: api.EConst, V: v, Type: v.Kind} }

func op(op int, kids ...api.Term) api.Term {
	return api.Term{Op: op, Kids: kids, Type: api.VBool}
}

func key(l ...int) api.Row {
	var r api.Row
	for _, n := range l {
		r = append(r, value.Num(n))
	}
	return r
}

func closed(l ...int) api.Bound { return api.Bound{Is: true, Key: key(l...)} }

func open(l ...int) api.Bound { return api.Bound{Is: true, Open: true, Key: key(l...)} }

func TestP26_1(t *testing.T) {
	a, b := col(0), col(1)
	three := []api.Term{op(api.ELt, b, num(5)), op(api.EEq, a, num(1)), op(api.ELe, num(2), b)}
	none := api.Bound{}
	for i, c := range []struct {
		terms  []api.Term
		cols   []int
		lo, hi api.Bound
		n      int
	}{
		{three, []int{0, 1}, closed(1, 2), open(1, 5), 2}, {three, []int{1, 0}, closed(2), open(5), 1}, {three, []int{2}, none, none, 0}, {three, nil, none, none, 0}, {three, []int{0}, closed(1), closed(1), 1}, {three, []int{0, 2}, closed(1), closed(1), 1},
		{[]api.Term{op(api.EGt, a, num(1))}, []int{0}, open(1), none, 1}, {[]api.Term{op(api.EGt, a, num(1))}, []int{0, 1}, open(1), none, 1}, {[]api.Term{op(api.EGe, a, num(1))}, []int{0}, closed(1), none, 1}, {[]api.Term{op(api.ELe, a, num(1))}, []int{0}, none, closed(1), 1},
		{[]api.Term{op(api.ELt, num(5), a)}, []int{0}, open(5), none, 1}, {[]api.Term{op(api.EGt, num(5), a)}, []int{0}, none, open(5), 1}, {[]api.Term{op(api.EGe, num(5), a)}, []int{0}, none, closed(5), 1}, {[]api.Term{op(api.EEq, num(5), a)}, []int{0}, closed(5), closed(5), 1},
		{[]api.Term{op(api.EGt, a, num(1)), op(api.EGt, a, num(9)), op(api.ELt, a, num(3)), op(api.ELe, a, num(2))}, []int{0}, open(1), open(3), 1}, {[]api.Term{op(api.EEq, a, num(1)), op(api.EEq, a, num(2))}, []int{0}, closed(1), closed(1), 1},
		{[]api.Term{op(api.EEq, a, num(1)), op(api.EGt, b, num(2))}, []int{0, 1}, open(1, 2), closed(1), 2}, {[]api.Term{op(api.EEq, a, num(1)), op(api.ELe, b, num(2))}, []int{0, 1}, closed(1), closed(1, 2), 2},
		{[]api.Term{op(api.EGt, a, num(1)), op(api.EEq, b, num(2))}, []int{0, 1}, open(1), none, 1}, {[]api.Term{op(api.EEq, a, num(1)), op(api.EEq, b, num(2)), op(api.EGt, a, num(0))}, []int{0, 1}, closed(1, 2), closed(1, 2), 2},
		{[]api.Term{op(api.EEq, a, constantTerm(api.Value{}))}, []int{0}, none, none, 0}, {[]api.Term{op(api.EEq, a, num(api.MaxNum+1))}, []int{0}, none, none, 0}, {[]api.Term{op(api.EEq, a, b)}, []int{0}, none, none, 0}, {[]api.Term{op(api.EEq, num(1), num(1))}, []int{0}, none, none, 0},
		{[]api.Term{op(api.ENe, a, num(1))}, []int{0}, none, none, 0}, {[]api.Term{op(api.EEq, api.Term{Op: api.ECol, Depth: 1}, num(1))}, []int{0}, none, none, 0}, {[]api.Term{op(api.EEq, a, num(1), num(2))}, []int{0}, none, none, 0}, {[]api.Term{op(api.EEq, a)}, []int{0}, none, none, 0},
		{[]api.Term{op(api.EEq, op(api.EAdd, a, num(1)), num(1))}, []int{0}, none, none, 0}, {[]api.Term{op(api.EAnd, a, num(1)), op(api.ELike, a, num(1))}, []int{0}, none, none, 0}, {nil, []int{0}, none, none, 0},
	} {
		lo, hi, n := Range(c.terms, c.cols)
		if !reflect.DeepEqual(lo, c.lo) || !reflect.DeepEqual(hi, c.hi) || n != c.n {
			t.Errorf("%d: %v %v %d", i, lo, hi, n)
		}
	}
}

func catalog(t *testing.T) (api.Catalog, api.Table) {
	t.Helper()
	c := api.Catalog{Next: 1}
	for _, sql := range []string{"create table t (a int, b int, unique (a))", "create table u (a int)"} {
		s, _, _ := parse.Stmt(sql)
		c, _ = schema.Create(c, s)
	}
	for _, sql := range []string{"create index i on u (a)", "create index j on t (b, a)", "create index k on t (b)"} {
		s, _, _ := parse.Stmt(sql)
		c, _ = schema.Index(c, s)
	}
	x, _ := schema.Find(c, "t")
	return c, x
}

func TestP26_2(t *testing.T) {
	c, table := catalog(t)
	var rows []api.Row
	for i := range 100 {
		rows = append(rows, key(i, i%4))
	}
	s := stat.Of("t", rows, 2, 7)
	show := func(l []api.Plan) string {
		out := ""
		for _, p := range l {
			out += fmt.Sprintf("%d%s %s est %d cost %d %v %v; ", p.Op, p.Table, p.Index, p.Est, p.Cost, p.Lo, p.Hi)
		}
		return out
	}
	terms := []api.Term{op(api.EEq, col(1), num(2)), op(api.ELt, col(0), num(50)), op(api.ELike, col(0), col(1))}
	// a < 50: 375000, since three of the eight ends are less; b = 2: 250000; like: 333333; together 31249. The height is 3.
	want := "1t  est 4 cost 170 {false false []} {false false []}; 2t t_1 est 4 cost 448 {false false []} {true true [{2 50 }]}; " +
		"2t j est 4 cost 140 {true false [{2 2 }]} {true true [{2 2 } {2 50 }]}; 2t k est 4 cost 305 {true false [{2 2 }]} {true false [{2 2 }]}; "
	l := Paths(c, s, table, "x", terms)
	if got := show(l); got != want {
		t.Errorf("got  %s\nwant %s", got, want)
	}
	for _, p := range l {
		if fmt.Sprint(p.Cols) != "[{x a 2} {x b 2}]" || !reflect.DeepEqual(p.Terms, terms) || len(p.Kids) != 0 {
			t.Errorf("%v", p)
		}
	}
	if got := show(Paths(c, s, table, "t", nil)); got != "1t  est 100 cost 170 {false false []} {false false []}; " {
		t.Error(got)
	}
	if got := show(Paths(c, api.Stat{}, table, "t", terms)); got != "1t  est 0 cost 0 {false false []} {false false []}; 2t t_1 est 0 cost 10 {false false []} {true true [{2 50 }]}; "+
		"2t j est 0 cost 10 {true false [{2 2 }]} {true true [{2 2 } {2 50 }]}; 2t k est 0 cost 10 {true false [{2 2 }]} {true false [{2 2 }]}; " {
		t.Error(got)
	}
	between := []api.Term{op(api.ELe, col(0), num(60)), op(api.EGt, col(0), num(10))}
	if got := Paths(c, s, table, "t", between); got[1].Est != 50 || got[1].Cost != 30+11*50 || !got[1].Lo.Open {
		t.Errorf("%v", got[1])
	}
	for rows, want := range map[int]int{-5: 1, 0: 1, 7: 1, 8: 2, 63: 2, 64: 3, 511: 3, 512: 4} {
		if got := height(rows); got != want {
			t.Errorf("height(%d) = %d", rows, got)
		}
	}
}

func TestP26_3(t *testing.T) {
	l := []api.Plan{{Op: 1, Cost: 5}, {Op: 2, Cost: 3}, {Op: 3, Cost: 3}, {Op: 4, Cost: 9}}
	if Best(l).Op != 2 || Best(l[2:]).Op != 3 || !reflect.DeepEqual(Best(nil), api.Plan{}) || Best([]api.Plan{{Op: 7, Cost: 1 << 60}}).Op != 7 {
		t.Error("Best")
	}
}

// within reports whether a key lies within a bound; sign is 1 for a lower bound and -1 for an upper one.
func within(k api.Row, b api.Bound, sign int) bool {
	c := sign * value.Orders(k[:min(len(k), len(b.Key))], b.Key)
	return !b.Is || c > 0 || c == 0 && !b.Open
}

func TestP26_4(t *testing.T) {
	r := rand.New(rand.NewSource(26))
	some := func() api.Value {
		return []api.Value{{}, value.Num(r.Intn(3)), value.Num(r.Intn(3)), value.Str("a"), value.Bool(true)}[r.Intn(5)]
	}
	hits := 0
	for range 100000 {
		var terms []api.Term
		for range r.Intn(4) {
			a, b := col(r.Intn(3)), constantTerm(some())
			if r.Intn(2) == 0 {
				a, b = b, a
			}
			terms = append(terms, op(api.EEq+r.Intn(6), a, b))
		}
		cols := r.Perm(3)[:1+r.Intn(3)]
		row := api.Row{some(), some(), some()}
		all := true
		for _, x := range terms {
			all = all && scalar.Truth(x, []api.Row{row}) == api.Yes
		}
		if !all {
			continue
		}
		hits++
		var k api.Row
		for _, at := range cols {
			k = append(k, row[at])
		}
		lo, hi, _ := Range(terms, cols)
		if !within(k, lo, 1) || !within(k, hi, -1) {
			t.Fatalf("%v for %v: %v is not within %v and %v", row, terms, k, lo, hi)
		}
	}
	if hits < 1000 {
		t.Error(hits)
	}
}
