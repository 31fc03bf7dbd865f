package algebra

import (
	"reflect"
	"testing"

	"tabellion/api"
	"tabellion/value"
)

func col(depth, at int) api.Term { return api.Term{Op: api.ECol, Depth: depth, At: at, Type: api.VInt} }

func num(n int) api.Term { return api.Term{Op: api.EConst, V: value.Num(n), Type: api.VInt} }

func op(op int, kids ...api.Term) api.Term {
	return api.Term{Op: op, Kids: kids, Type: api.VBool}
}

func call(name string, kids ...api.Term) api.Term {
	return api.Term{Op: api.EFunc, Name: name, Kids: kids}
}

func sub(op int, r api.Rel, kids ...api.Term) api.Term {
	return api.Term{Op: op, Kids: kids, Sub: []api.Rel{r}}
}

func cols(n int) []api.Col { return make([]api.Col, n) }

func table(n int) api.Rel { return api.Rel{Op: api.RTable, Table: "t", Cols: cols(n)} }

func rel(op, width int, kids ...api.Rel) api.Rel {
	return api.Rel{Op: op, Cols: cols(width), Kids: kids}
}

func with(r api.Rel, f func(*api.Rel)) api.Rel {
	f(&r)
	return r
}

func filter(r api.Rel, t api.Term) api.Rel {
	return api.Rel{Op: api.RFilter, Cols: r.Cols, Kids: []api.Rel{r}, Terms: []api.Term{t}}
}

type termCase struct {
	t     api.Term
	env   []int
	right bool
}

func termCases() []termCase {
	a := col(0, 0)
	env := []int{2, 1}
	one := filter(table(1), op(api.EEq, col(0, 0), col(1, 1)))
	l := []termCase{
		{num(1), nil, true}, {num(api.MaxNum + 1), nil, false}, {api.Term{Op: api.EConst}, nil, true}, {api.Term{Op: api.EConst, Type: 4}, nil, false}, {api.Term{Op: api.EConst, Type: -1}, nil, false},
		{op(api.EConst, a), env, false}, {sub(api.EConst, one), env, false}, {col(1, 0), []int{2}, false}, {col(1, 0), env, true}, {col(0, 1), env, true}, {col(0, 2), env, false}, {col(1, 1), env, false},
		{col(-1, 0), env, false}, {col(0, -1), env, false}, {col(0, 0), nil, false}, {col(0, 0), []int{-3}, false}, {op(api.ECol, a), env, false},
		{op(api.EBetween, a, a, a), env, true}, {op(api.EBetween, a, a), env, false}, {op(api.EIn, a), env, false}, {op(api.EIn, a, a, a, a), env, true}, {op(api.ECase, a), env, false}, {op(api.ECase, a, a, a), env, true},
		{call("length", a), env, true}, {call("lower"), env, false}, {call("upper", a, a), env, false}, {call("abs", a), env, true}, {call("nullif", a, a), env, true}, {call("nullif", a), env, false},
		{call("coalesce", a, a, a), env, true}, {call("coalesce"), env, false}, {call("f", a), env, false}, {call(""), env, false}, {call("count", a), env, false}, {sub(api.EFunc, one, a), env, false},
		{sub(api.EScalar, one), env, true}, {sub(api.EScalar, one), []int{1}, false}, {sub(api.EScalar, table(2)), env, false}, {sub(api.EScalar, table(0)), env, false}, {op(api.EScalar), env, false}, {sub(api.EScalar, one, a), env, false},
		{sub(api.EExists, table(2)), env, true}, {sub(api.EExists, table(0)), env, true}, {op(api.EExists), env, false}, {sub(api.EExists, rel(api.RTable, 1)), env, false},
		{sub(api.EInSub, one, a), env, true}, {sub(api.EInSub, one), env, false}, {sub(api.EInSub, table(2), a), env, false}, {op(api.EInSub, a), env, false}, {sub(api.EInSub, one, col(0, 5)), env, false},
		{op(api.EAgg), env, false}, {op(0), env, false}, {op(29, a), env, false}, {op(-1), env, false}, {api.Term{Op: api.EScalar, Sub: []api.Rel{one, one}}, env, false},
		{op(api.ENot, op(api.ENot, col(0, 2))), env, false}, {api.Term{Op: api.ENot, Kids: []api.Term{a}, Name: "x", At: 7, V: value.Num(-1)}, env, true},
		{op(api.EAdd, num(1), api.Term{Op: api.EConst, Type: 9}), env, false},
	}
	for _, o := range []int{api.ENeg, api.ENot, api.EIsNull} {
		l = append(l, termCase{op(o, a), env, true}, termCase{op(o), env, false}, termCase{op(o, a, a), env, false}, termCase{sub(o, one, a), env, false})
	}
	for _, o := range []int{api.EAdd, api.ESub, api.EMul, api.EDiv, api.EMod, api.ECat, api.EEq, api.ENe, api.ELt, api.ELe, api.EGt, api.EGe, api.EAnd, api.EOr, api.ELike} {
		l = append(l, termCase{op(o, a, a), env, true}, termCase{op(o, a), env, false}, termCase{op(o, a, a, a), env, false})
	}
	return l
}

func TestP15_1(t *testing.T) {
	for i, c := range termCases() {
		if got := Term(c.t, c.env); got != c.right {
			t.Errorf("%d: Term(%v, %v) = %v", i, c.t, c.env, got)
		}
	}
}

func TestP15_2(t *testing.T) {
	two, three := table(2), table(3)
	for i, c := range []struct {
		r    api.Rel
		want int
	}{
		{two, 2}, {api.Rel{Op: api.RRows, Cols: cols(4)}, 4}, {rel(api.RFilter, 9, two), 2}, {rel(api.RDistinct, 0, two), 2}, {rel(api.RSort, 0, two), 2}, {rel(api.RLimit, 0, two), 2},
		{rel(api.RUnion, 0, two, three), 2}, {rel(api.RInter, 0, three, two), 3}, {rel(api.RExcept, 0, two, two), 2}, {api.Rel{Op: api.RProject, Kids: []api.Rel{two}, Terms: make([]api.Term, 5)}, 5},
		{rel(api.RJoin, 0, two, three), 5}, {rel(api.RLeft, 0, three, three, two), 6}, {api.Rel{Op: api.RGroup, Kids: []api.Rel{two}, Terms: make([]api.Term, 1), Aggs: make([]api.Agg, 2)}, 3},
		{api.Rel{Op: api.RProject, Terms: make([]api.Term, 5)}, 0}, {api.Rel{Op: api.RGroup, Terms: make([]api.Term, 5)}, 0}, {rel(api.RFilter, 3), 0}, {rel(api.RJoin, 3, two), 0}, {rel(api.RUnion, 3, two), 0},
		{rel(0, 3, two), 0}, {rel(14, 3, two), 0}, {rel(api.RFilter, 0, two, three), 2}, {rel(api.RFilter, 0, rel(api.RJoin, 0, two, two)), 4},
	} {
		if got := Width(c.r); got != c.want {
			t.Errorf("%d: %d, want %d", i, got, c.want)
		}
	}
}

type relCase struct {
	r     api.Rel
	env   []int
	right bool
}

func relCases() []relCase {
	two, one := table(2), table(1)
	agg := func(name string, distinct bool, terms ...api.Term) api.Rel {
		return with(rel(api.RGroup, 1, two), func(r *api.Rel) { r.Aggs = []api.Agg{{Name: name, Distinct: distinct, T: terms}} })
	}
	limit := func(n, skip int) api.Rel {
		return with(rel(api.RLimit, 2, two), func(r *api.Rel) { r.Limit, r.Skip = n, skip })
	}
	sorted := func(l ...api.By) api.Rel { return with(rel(api.RSort, 2, two), func(r *api.Rel) { r.Keys = l }) }
	rows := func(n int, l ...api.Row) api.Rel {
		return with(rel(api.RRows, n), func(r *api.Rel) { r.Rows = l })
	}
	terms := func(r api.Rel, l ...api.Term) api.Rel { return with(r, func(r *api.Rel) { r.Terms = l }) }
	l := []relCase{
		{two, nil, true}, {api.Rel{Op: api.RTable, Cols: cols(1)}, nil, false}, {rows(0), nil, true}, {rows(0, nil, api.Row{}), nil, true}, {rows(1, api.Row{value.Num(1)}), nil, true}, {rows(1, nil), nil, false},
		{rows(1, api.Row{value.Num(1), value.Num(1)}), nil, false}, {rows(1, api.Row{{Kind: 5}}), nil, false}, {filter(two, col(0, 1)), nil, true}, {filter(two, col(0, 2)), nil, false}, {filter(two, col(1, 0)), []int{1}, true},
		{filter(two, col(1, 0)), nil, false}, {filter(two, col(2, 0)), []int{1}, false}, {terms(filter(two, num(1))), nil, false}, {terms(filter(two, num(1)), num(1), num(1)), nil, false}, {filter(filter(two, col(0, 2)), num(1)), nil, false},
		{terms(rel(api.RProject, 2, two), num(1), col(0, 1)), nil, true}, {rel(api.RProject, 0, two), nil, true}, {terms(rel(api.RProject, 1, two), num(1), col(0, 1)), nil, false}, {terms(rel(api.RProject, 1, two), col(0, 2)), nil, false},
		{rel(api.RJoin, 3, two, one), nil, true}, {terms(rel(api.RJoin, 3, two, one), col(0, 2)), nil, true}, {terms(rel(api.RJoin, 3, two, one), col(0, 3)), nil, false}, {terms(rel(api.RJoin, 3, two, one), num(1), num(1)), nil, false},
		{rel(api.RJoin, 2, two, one), nil, false}, {rel(api.RLeft, 3, two, one), nil, false}, {terms(rel(api.RLeft, 3, two, one), num(1)), nil, true}, {terms(rel(api.RLeft, 3, two, one), num(1), num(1)), nil, false},
		{agg("count", false), nil, true}, {agg("count", true), nil, false}, {agg("count", true, num(1)), nil, true}, {agg("sum", false), nil, false}, {agg("max", false, col(0, 1)), nil, true}, {agg("min", false, col(0, 2)), nil, false},
		{agg("sum", false, num(1), num(1)), nil, false}, {agg("avg", false, num(1)), nil, false}, {rel(api.RGroup, 0, two), nil, true}, {terms(agg("count", false), num(1)), nil, false}, {terms(with(agg("count", false), func(r *api.Rel) { r.Cols = cols(2) }), col(0, 1)), nil, true},
		{terms(with(agg("count", false), func(r *api.Rel) { r.Cols = cols(2) }), col(0, 2)), nil, false}, {rel(api.RDistinct, 2, two), nil, true}, {rel(api.RDistinct, 1, two), nil, false},
		{sorted(), nil, true}, {sorted(api.By{At: 1}, api.By{At: 1, Down: true}), nil, true}, {sorted(api.By{At: 2}), nil, false}, {sorted(api.By{At: -1}), nil, false},
		{limit(-1, 0), nil, true}, {limit(0, 0), nil, true}, {limit(-2, 0), nil, false}, {limit(api.MaxNum, api.MaxNum), nil, true}, {limit(api.MaxNum+1, 0), nil, false}, {limit(0, api.MaxNum+1), nil, false}, {limit(0, -1), nil, false},
		{rel(0, 0), nil, false}, {rel(14, 2, two), nil, false}, {rel(-1, 2, two), nil, false},
	}
	for _, o := range []int{api.RUnion, api.RInter, api.RExcept} {
		l = append(l, relCase{rel(o, 2, two, two), nil, true}, relCase{with(rel(o, 2, two, two), func(r *api.Rel) { r.All = true }), nil, true}, relCase{rel(o, 2, two, one), nil, false}, relCase{rel(o, 2, two), nil, false})
	}
	return l
}

func TestP15_3(t *testing.T) {
	used := map[int]string{
		api.RTable: "Table", api.RRows: "Rows", api.RFilter: "Terms", api.RProject: "Terms", api.RJoin: "Terms", api.RLeft: "Terms", api.RGroup: "Terms Aggs", api.RSort: "Keys",
		api.RUnion: "All", api.RInter: "All", api.RExcept: "All", api.RLimit: "Limit Skip", api.RDistinct: "",
	}
	fill := map[string]any{
		"Table": "t", "Rows": []api.Row{nil}, "Terms": []api.Term{num(1)}, "Aggs": []api.Agg{{Name: "count"}}, "Keys": []api.By{{At: 0}}, "All": true, "Limit": 1, "Skip": 1,
	}
	for i, c := range relCases() {
		if got := Rel(c.r, c.env); got != c.right {
			t.Errorf("%d: Rel(%v, %v) = %v", i, c.r, c.env, got)
		}
		if !c.right {
			continue
		}
		for field, v := range fill {
			if !contains(used[c.r.Op], field) {
				bad := with(c.r, func(r *api.Rel) { reflect.ValueOf(r).Elem().FieldByName(field).Set(reflect.ValueOf(v)) })
				if Rel(bad, c.env) {
					t.Errorf("%d: accepted with %s", i, field)
				}
			}
		}
		more := with(c.r, func(r *api.Rel) { r.Kids = append(append([]api.Rel{}, r.Kids...), table(2)) })
		wider := with(c.r, func(r *api.Rel) { r.Cols = append(append([]api.Col{}, r.Cols...), api.Col{}) })
		if Rel(more, c.env) || Rel(wider, c.env) && c.r.Op != api.RTable && (c.r.Op != api.RRows || len(c.r.Rows) > 0) {
			t.Errorf("%d: accepted with another kid or column", i)
		}
	}
}

func contains(l, s string) bool {
	for i := range l {
		if len(l)-i >= len(s) && l[i:i+len(s)] == s {
			return true
		}
	}
	return false
}

func TestP15_4(t *testing.T) {
	if !Plain(op(api.EAnd, num(1), col(0, 0))) || Plain(sub(api.EExists, table(1))) || Plain(op(api.ENot, op(api.ENot, sub(api.EInSub, table(1), num(1))))) || !Plain(api.Term{}) {
		t.Error("Plain")
	}
}

// vary calls f with copies of a tree that differ from it in one field, however deep.
func vary(v reflect.Value, f func()) {
	switch v.Kind() {
	case reflect.Struct:
		for i := range v.NumField() {
			vary(v.Field(i), f)
		}
	case reflect.Slice:
		old := v.Interface()
		for i := range v.Len() {
			vary(v.Index(i), f)
		}
		v.Set(reflect.Append(v, reflect.Zero(v.Type().Elem())))
		f()
		v.Set(reflect.ValueOf(old))
	case reflect.Int:
		v.SetInt(v.Int() + 1)
		f()
		v.SetInt(v.Int() - 1)
	case reflect.Bool:
		v.SetBool(!v.Bool())
		f()
		v.SetBool(!v.Bool())
	case reflect.String:
		old := v.String()
		v.SetString(old + "x")
		f()
		v.SetString(old)
	}
}

func full() api.Rel {
	return api.Rel{
		Op: 1, Table: "t", Cols: cols(1), Kids: []api.Rel{filter(table(1), num(1))}, Terms: []api.Term{op(1, num(1), sub(2, table(1)))}, Aggs: []api.Agg{{Name: "x", T: []api.Term{col(1, 2)}}},
		Keys: []api.By{{At: 1}}, Limit: 3, Skip: 4, Rows: []api.Row{{value.Num(1), value.Str("x")}},
	}
}

func TestP15_5(t *testing.T) {
	a, b := full(), full()
	n := 0
	vary(reflect.ValueOf(&a).Elem(), func() {
		n++
		if SameRel(a, b) || SameRel(b, a) {
			t.Errorf("change %d makes no difference", n)
		}
	})
	x, y := sub(3, full(), num(1)), sub(3, full(), num(1))
	vary(reflect.ValueOf(&x).Elem(), func() {
		if SameTerm(x, y) {
			t.Error("a term that differs is the same")
		}
	})
	if !SameRel(a, b) || !SameTerm(x, y) || n < 60 {
		t.Error("a tree is not the same as itself")
	}
	if !SameRel(api.Rel{Rows: []api.Row{{}}, Kids: []api.Rel{}}, api.Rel{Rows: []api.Row{nil}}) {
		t.Error("nil and empty lists are equal")
	}
}

func TestP15_6(t *testing.T) {
	for i, c := range termCases() {
		if !c.right {
			continue
		}
		more := append([]int{}, c.env...)
		for j := range more {
			more[j]++
		}
		if !Term(c.t, more) || !Term(c.t, append(more, 3, 4)) {
			t.Errorf("%d: not valid with more columns and depths", i)
		}
		for _, k := range c.t.Kids {
			if !Term(k, c.env) {
				t.Errorf("%d: a kid is not valid", i)
			}
		}
	}
	for i, c := range relCases() {
		if !c.right {
			continue
		}
		if !Rel(c.r, append(append([]int{}, c.env...), 5)) {
			t.Errorf("%d: not valid with more depths", i)
		}
		for _, k := range c.r.Kids {
			if !Rel(k, c.env) {
				t.Errorf("%d: a kid is not valid", i)
			}
		}
	}
}
