package explain

import (
	"strings"
	"testing"

	"tabellion/api"
	"tabellion/value"
)

func col(at int) api.Term { return api.Term{Op: api.ECol, At: at} }

func lit(n int) api.Term { return api.Term{Op: api.EConst, V: value.Num(n)} }

func op(op int, kids ...api.Term) api.Term { return api.Term{Op: op, Kids: kids} }

var cols = []api.Col{{Name: "a"}, {Table: "t", Name: "b"}}

func TestP30_1(t *testing.T) {
	scan := api.Plan{Op: api.PScan, Table: "t", Cols: []api.Col{{Table: "t", Name: "a"}}, Terms: []api.Term{op(api.ELt, col(0), lit(3))}, Est: 4, Cost: 20}
	if got := Lines(scan, []int{2}); len(got) != 1 || got[0] != "scan t [(t.a < 3)] est 4 cost 20 rows 2" {
		t.Errorf("%q", got)
	}
	seek := api.Plan{Op: api.PSeek, Table: "u", Index: "i", Cols: []api.Col{{Table: "u", Name: "x"}, {Name: "y"}}}
	hash := api.Plan{Op: api.PHash, Kids: []api.Plan{scan, seek}, LKeys: []api.Term{col(0), op(api.ENeg, col(1)), col(0)}, RKeys: []api.Term{col(1), col(0)}, Terms: []api.Term{op(api.EEq, col(0), col(2)), col(1), col(3)}, Cols: make([]api.Col, 3), Est: 5}
	top := api.Plan{Op: api.PSort, Kids: []api.Plan{{Op: api.PProject, Kids: []api.Plan{hash}, Terms: []api.Term{lit(1)}, Cols: cols}}, Est: -1, Cost: 7}
	want := strings.Join([]string{
		"sort est -1 cost 7 rows 9",
		"  project [1] est 0 cost 0 rows 8",
		"    hash on t.a = y, (- $0.1) = u.x [(t.a = y); u.x; $0.3] est 5 cost 0 rows 7",
		"      scan t [(t.a < 3)] est 4 cost 20 rows -",
		"      seek u by i est 0 cost 0 rows -",
	}, "\n")
	if got := strings.Join(Lines(top, []int{9, 8, 7}), "\n"); got != want || Nodes(top) != 5 {
		t.Errorf("%s", got)
	}
	words := strings.Fields("scan seek rows filter project nest hash merge left hashleft group distinct union inter except sort limit pick")
	for i, w := range words {
		if i+1 == api.PSeek {
			continue
		}
		if got := Lines(api.Plan{Op: i + 1}, nil); got[0] != w+" est 0 cost 0 rows -" {
			t.Errorf("%q", got)
		}
	}
	for _, o := range []int{0, 19, -1} {
		if got := Lines(api.Plan{Op: o}, nil); got[0] != "plan est 0 cost 0 rows -" {
			t.Errorf("%q", got)
		}
	}
	for _, c := range []struct {
		p    api.Plan
		want string
	}{
		{api.Plan{Op: api.PSeek}, "seek by  est 0 cost 0 rows -"}, {api.Plan{Op: api.PScan, Index: "i", Table: "t"}, "scan t est 0 cost 0 rows -"}, {api.Plan{Op: api.PHash, LKeys: []api.Term{col(0)}}, "hash est 0 cost 0 rows -"},
		{api.Plan{Op: api.PHash, LKeys: []api.Term{col(0)}, RKeys: []api.Term{col(0)}, Cols: cols}, "hash on $0.0 = $0.0 est 0 cost 0 rows -"}, {api.Plan{Op: api.PFilter, Cols: cols, Kids: []api.Plan{{}}, Terms: []api.Term{col(0)}}, "filter [$0.0] est 0 cost 0 rows -"},
		{api.Plan{Op: api.PHash, LKeys: []api.Term{col(0)}, RKeys: []api.Term{col(1)}, Kids: []api.Plan{{Cols: cols}}}, "hash on a = $0.1 est 0 cost 0 rows -"},
	} {
		if got := Lines(c.p, nil); got[0] != c.want {
			t.Errorf("%q", got)
		}
	}
}

func TestP30_2(t *testing.T) {
	a, b := col(0), col(1)
	for _, c := range []struct {
		t    api.Term
		want string
	}{
		{op(api.EAdd, a, b), "(a + t.b)"}, {lit(-5), "-5"}, {api.Term{Op: api.EConst, V: value.Str("it's")}, "'it''s'"}, {op(api.EConst, a), "null"}, {col(2), "$0.2"}, {col(-1), "$0.-1"}, {api.Term{Op: api.ECol, Depth: 2, At: 1}, "$2.1"}, {api.Term{Op: api.ECol, Depth: -1}, "$-1.0"},
		{op(api.ENeg, a), "(- a)"}, {op(api.ENot, b), "(not t.b)"}, {op(api.EIsNull, a), "(a is null)"}, {op(api.ENeg), "?"}, {op(api.ENot, a, a), "?"}, {op(api.EIsNull), "?"},
		{op(api.ESub, a, b), "(a - t.b)"}, {op(api.EMul, a, b), "(a * t.b)"}, {op(api.EDiv, a, b), "(a / t.b)"}, {op(api.EMod, a, b), "(a % t.b)"}, {op(api.ECat, a, b), "(a || t.b)"}, {op(api.EEq, a, b), "(a = t.b)"}, {op(api.ENe, a, b), "(a <> t.b)"},
		{op(api.ELt, a, b), "(a < t.b)"}, {op(api.ELe, a, b), "(a <= t.b)"}, {op(api.EGt, a, b), "(a > t.b)"}, {op(api.EGe, a, b), "(a >= t.b)"}, {op(api.EAnd, a, b), "(a and t.b)"}, {op(api.EOr, a, b), "(a or t.b)"}, {op(api.ELike, a, b), "(a like t.b)"},
		{op(api.EOr, a), "?"}, {op(api.EAdd, a, a, a), "?"}, {op(api.EIn, a, b), "(a in (t.b))"}, {op(api.EIn, a, b, lit(2)), "(a in (t.b, 2))"}, {op(api.EIn, a), "?"}, {op(api.EBetween, a, lit(1), b), "(a between 1 and t.b)"}, {op(api.EBetween, a, b), "?"},
		{op(api.ECase, a, b), "(case when a then t.b end)"}, {op(api.ECase, a, b, lit(1)), "(case when a then t.b else 1 end)"}, {op(api.ECase, a, b, a, b), "(case when a then t.b when a then t.b end)"}, {op(api.ECase, a), "?"},
		{api.Term{Op: api.EFunc, Name: "f", Kids: []api.Term{a, b}}, "f(a, t.b)"}, {api.Term{Op: api.EFunc, Name: "f"}, "f()"}, {op(api.EScalar), "(query)"}, {op(api.EExists, a), "(exists query)"}, {op(api.EInSub, b), "(t.b in query)"}, {op(api.EInSub), "?"}, {op(api.EInSub, a, a), "?"},
		{op(api.EAgg, a), "?"}, {op(0), "?"}, {op(-1, a, b), "?"}, {op(29), "?"}, {op(api.EAnd, op(api.ENot, op(99)), op(api.EEq, a, lit(1))), "((not ?) and (a = 1))"},
	} {
		if got := Term(c.t, cols); got != c.want {
			t.Errorf("%s, want %s", got, c.want)
		}
	}
	if Term(col(0), nil) != "$0.0" {
		t.Error("no columns")
	}
}

func TestP30_3(t *testing.T) {
	p := api.Plan{Op: api.PUnion, Kids: []api.Plan{{Op: api.PSort, Kids: []api.Plan{{}, {}}}, {Op: api.PScan, Table: "t"}}, Terms: []api.Term{op(api.ECase, lit(1), lit(2))}}
	for n := range 7 {
		l := Lines(p, make([]int, n))
		if len(l) != Nodes(p) || len(l) != 5 {
			t.Error(len(l))
		}
		for i, s := range l {
			if strings.Contains(s, "\n") || strings.HasSuffix(s, "-") != (i >= n) {
				t.Errorf("%q", s)
			}
		}
	}
}
