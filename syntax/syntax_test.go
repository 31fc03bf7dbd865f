package syntax

import (
	"fmt"
	"reflect"
	"strings"
	"testing"

	"tabellion/api"
	"tabellion/value"
)

func num(n int) api.Expr           { return api.Expr{Op: api.EConst, V: value.Num(n)} }
func col(table, s string) api.Expr { return api.Expr{Op: api.ECol, Table: table, Name: s} }
func op(op int, kids ...api.Expr) api.Expr {
	return api.Expr{Op: op, Kids: kids}
}
func times(n int, e api.Expr) []api.Expr {
	l := make([]api.Expr, n)
	for i := range l {
		l[i] = e
	}
	return l
}
func names(n int) []string {
	l := make([]string, n)
	for i := range l {
		l[i] = "a"
	}
	return l
}
func sel(items ...api.Item) api.Query { return api.Query{Op: api.QSelect, Items: items, Limit: -1} }
func table(s string) api.From         { return api.From{Kind: api.FTable, Name: s} }

var (
	one  = api.Item{E: num(1)}
	star = api.Item{Star: true}
	sub  = []api.Query{sel(one)}
	long = "abcdefghijklmnopqrst"
)

// exprCase is an expression, whether it is valid, and the fields that it must not have (by their names).
type exprCase struct {
	e     api.Expr
	right bool
	not   string
}

func exprCases() []exprCase {
	a := col("", "a")
	return []exprCase{
		{num(0), true, "Table Name Distinct Kids Sub"}, {api.Expr{Op: api.EConst}, true, "Table Name Distinct Kids Sub"},
		{num(-1), false, ""}, {num(api.MaxNum), true, ""}, {num(api.MaxNum + 1), false, ""},
		{api.Expr{Op: api.EConst, V: value.Str("x\n")}, false, ""}, {api.Expr{Op: api.EConst, V: value.Bool(true)}, true, ""},
		{a, true, "V Distinct Kids Sub"}, {col("t", "select"), true, ""}, {col("", ""), false, ""}, {col("T", "a"), false, ""},
		{col("", "1a"), false, ""}, {col("", "a b"), false, ""}, {col("", long), true, ""}, {col("", long+"u"), false, ""},
		{col("", "_9"), true, ""}, {col("é", "a"), false, ""},
		{op(api.ENeg, num(5)), true, "V Table Name Distinct Sub"}, {op(api.ENeg), false, ""}, {op(api.ENot, a, a), false, ""},
		{op(api.EIsNull, a), true, "V Table Name Distinct Sub"}, {op(api.EAdd, a), false, ""}, {op(api.EOr, a, a, a), false, ""},
		{op(api.EAdd, a, a), true, "V Table Name Distinct Sub"}, {op(api.ELike, a, a), true, "V Table Name Distinct Sub"},
		{op(api.EBetween, a, a, a), true, "V Table Name Distinct Sub"}, {op(api.EBetween, a, a), false, ""},
		{op(api.EIn, a), false, ""}, {op(api.EIn, a, a), true, "V Table Name Distinct Sub"}, {op(api.EIn, times(65, a)...), true, ""},
		{op(api.EIn, times(66, a)...), false, ""}, {op(api.ECase, a), false, ""}, {op(api.ECase, a, a), true, "V Table Name Distinct Sub"},
		{op(api.ECase, times(129, a)...), true, ""}, {op(api.ECase, times(130, a)...), false, ""},
		{api.Expr{Op: api.EFunc, Name: "f"}, true, "V Table Distinct Sub"}, {api.Expr{Op: api.EFunc, Name: "left", Kids: times(64, a)}, true, ""},
		{api.Expr{Op: api.EFunc, Name: "f", Kids: times(65, a)}, false, ""}, {api.Expr{Op: api.EFunc, Name: "max", Kids: times(1, a)}, false, ""},
		{api.Expr{Op: api.EFunc}, false, ""}, {api.Expr{Op: api.EAgg, Name: "count"}, true, "V Table Distinct Sub"},
		{api.Expr{Op: api.EAgg, Name: "sum"}, false, ""}, {api.Expr{Op: api.EAgg, Name: "min", Kids: times(1, a)}, true, "V Table Sub"},
		{api.Expr{Op: api.EAgg, Name: "count", Kids: times(1, a), Distinct: true}, true, ""},
		{api.Expr{Op: api.EAgg, Name: "count", Kids: times(2, a)}, false, ""}, {api.Expr{Op: api.EAgg, Name: "avg", Kids: times(1, a)}, false, ""},
		{api.Expr{Op: api.EScalar, Sub: sub}, true, "V Table Name Distinct Kids"}, {api.Expr{Op: api.EExists, Sub: sub}, true, "V Table Name Distinct Kids"},
		{api.Expr{Op: api.EScalar}, false, ""}, {api.Expr{Op: api.EExists, Sub: append(sub, sub...)}, false, ""},
		{api.Expr{Op: api.EInSub, Sub: sub, Kids: times(1, a)}, true, "V Table Name Distinct"}, {api.Expr{Op: api.EInSub, Sub: sub}, false, ""},
		{api.Expr{Op: api.EScalar, Sub: []api.Query{{}}}, false, ""}, {op(api.ENot, num(-1)), false, ""}, {api.Expr{Op: 0}, false, ""},
		{api.Expr{Op: 29}, false, ""}, {api.Expr{Op: -1}, false, ""},
	}
}

func TestP9_1(t *testing.T) {
	for _, c := range exprCases() {
		if got := Expr(c.e); got != c.right {
			t.Errorf("Expr(%v) = %v", c.e, got)
		}
		checkForbidden(t, c.e, c.not, func(e api.Expr) bool { return Expr(e) })
	}
}

// checkForbidden fills each of some fields of a valid tree, which must make it invalid.
func checkForbidden[T any](t *testing.T, tree T, not string, right func(T) bool) {
	for _, field := range strings.Fields(not) {
		x := tree
		f := reflect.ValueOf(&x).Elem().FieldByName(field)
		f.Set(filled(f.Type()))
		if right(x) {
			t.Errorf("%T with %s is accepted: %v", x, field, x)
		}
	}
}

// filled returns a valid value of a field.
func filled(t reflect.Type) reflect.Value {
	fill := map[reflect.Type]any{
		reflect.TypeFor[int]():          1,
		reflect.TypeFor[bool]():         true,
		reflect.TypeFor[string]():       "a",
		reflect.TypeFor[api.Value]():    value.Num(1),
		reflect.TypeFor[[]api.Expr]():   []api.Expr{num(1)},
		reflect.TypeFor[api.Expr]():     num(1),
		reflect.TypeFor[[]api.Query]():  []api.Query{sel(one)},
		reflect.TypeFor[[]api.Item]():   []api.Item{one},
		reflect.TypeFor[[]api.From]():   []api.From{table("t")},
		reflect.TypeFor[[]api.Order]():  []api.Order{{At: 1}},
		reflect.TypeFor[[]api.ColDef](): []api.ColDef{{Name: "a", Type: api.VInt}},
		reflect.TypeFor[[]string]():     []string{"a"},
		reflect.TypeFor[[]api.KeyDef](): []api.KeyDef{{Names: []string{"a"}}},
		reflect.TypeFor[[]api.RefDef](): []api.RefDef{{Names: []string{"a"}, Table: "t", To: []string{"a"}}},
		reflect.TypeFor[[][]api.Expr](): [][]api.Expr{{num(1)}},
		reflect.TypeFor[[]api.Assign](): []api.Assign{{Name: "a", E: num(1)}},
	}
	return reflect.ValueOf(fill[t])
}

func from(f api.From) api.Query {
	q := sel(star)
	q.From = []api.From{f}
	return q
}

func join(kind int, on []api.Expr, kids ...api.From) api.From {
	return api.From{Kind: kind, Kids: kids, On: on}
}

func cross(n int) api.From {
	f := table("t")
	for range n - 1 {
		f = join(api.FCross, nil, f, table("t"))
	}
	return f
}

func TestP9_2(t *testing.T) {
	on := []api.Expr{num(1)}
	query := api.From{Kind: api.FQuery, Sub: []api.Query{from(cross(8))}, As: "x"}
	for i, c := range []struct {
		q     api.Query
		right bool
		not   string
	}{
		{sel(one), true, "All Kids"}, {sel(), false, ""}, {sel(star), true, ""}, {sel(api.Item{Star: true, Table: "t"}), true, ""},
		{sel(api.Item{Star: true, As: "x"}), false, ""}, {sel(api.Item{Star: true, E: num(1)}), false, ""}, {sel(api.Item{Star: true, Table: "T"}), false, ""},
		{sel(api.Item{E: num(1), As: "x"}), true, ""}, {sel(api.Item{E: num(1), Table: "t"}), false, ""}, {sel(api.Item{E: num(1), As: "1"}), false, ""},
		{sel(api.Item{}), false, ""}, {api.Query{Op: api.QSelect, Items: times64(64)}, true, ""}, {api.Query{Op: api.QSelect, Items: times64(65)}, false, ""},
		{api.Query{Op: api.QSelect, Items: []api.Item{one}, Limit: -2}, false, ""}, {api.Query{Op: api.QSelect, Items: []api.Item{one}, Limit: api.MaxNum, Skip: api.MaxNum}, true, ""},
		{api.Query{Op: api.QSelect, Items: []api.Item{one}, Limit: api.MaxNum + 1}, false, ""}, {api.Query{Op: api.QSelect, Items: []api.Item{one}, Skip: -1}, false, ""},
		{api.Query{Op: api.QSelect, Items: []api.Item{one}, Skip: api.MaxNum + 1}, false, ""},
		{ordered(api.Order{Name: "a", Down: true}), true, ""}, {ordered(api.Order{Name: "a", At: 1}), false, ""}, {ordered(api.Order{At: 1}), true, ""},
		{ordered(api.Order{}), false, ""}, {ordered(api.Order{At: api.MaxNum + 1}), false, ""}, {ordered(api.Order{Name: "A"}), false, ""},
		{ordered(make([]api.Order, 65)...), false, ""}, {api.Query{Op: api.QSelect, Items: []api.Item{one}, Where: times(1, num(1)), Group: times(64, num(1)), Having: times(1, num(1)), Distinct: true}, true, ""},
		{api.Query{Op: api.QSelect, Items: []api.Item{one}, Where: times(2, num(1))}, false, ""}, {api.Query{Op: api.QSelect, Items: []api.Item{one}, Having: times(2, num(1))}, false, ""},
		{api.Query{Op: api.QSelect, Items: []api.Item{one}, Group: times(65, num(1))}, false, ""}, {api.Query{Op: api.QSelect, Items: []api.Item{one}, Where: times(1, num(-1))}, false, ""},
		{api.Query{Op: api.QUnion, Kids: []api.Query{sel(one), sel(star)}, All: true}, true, "Distinct Items From Where Group Having"},
		{api.Query{Op: api.QInter, Kids: []api.Query{sel(one)}}, false, ""}, {api.Query{Op: api.QExcept, Kids: []api.Query{sel(one), sel(one), sel(one)}}, false, ""},
		{api.Query{Op: api.QUnion, Kids: []api.Query{sel(one), sel()}}, false, ""}, {api.Query{Op: 5, Kids: []api.Query{sel(one), sel(one)}}, false, ""}, {api.Query{Limit: -1}, false, ""},
		{from(table("t")), true, ""}, {from(api.From{Kind: api.FTable, Name: "t", As: "u"}), true, ""}, {from(api.From{Kind: api.FTable, As: "u"}), false, ""},
		{from(api.From{Kind: api.FTable, Name: "t", As: "U"}), false, ""}, {from(query), true, ""}, {from(api.From{Kind: api.FQuery, Sub: sub}), false, ""},
		{from(api.From{Kind: api.FQuery, As: "x"}), false, ""}, {from(join(api.FCross, nil, table("t"), table("t"))), true, ""},
		{from(join(api.FCross, on, table("t"), table("t"))), false, ""}, {from(join(api.FInner, on, table("t"), table("t"))), true, ""},
		{from(join(api.FInner, nil, table("t"), table("t"))), false, ""}, {from(join(api.FLeft, on, table("t"), query)), true, ""},
		{from(join(api.FLeft, on, table("t"))), false, ""}, {from(join(api.FLeft, append(on, on...), table("t"), query)), false, ""}, {from(join(6, on, table("t"), table("t"))), false, ""},
		{from(cross(8)), true, ""}, {from(cross(9)), false, ""}, {from(join(api.FCross, nil, cross(7), query)), true, ""}, {from(join(api.FCross, nil, cross(8), query)), false, ""},
		{api.Query{Op: api.QSelect, Items: []api.Item{one}, From: []api.From{table("t"), table("t")}}, false, ""},
	} {
		if got := Query(c.q); got != c.right {
			t.Errorf("%d: Query(%v) = %v", i, c.q, got)
		}
		checkForbidden(t, c.q, c.not, Query)
	}
	for _, f := range []struct {
		f   api.From
		not string
	}{
		{table("t"), "Sub Kids On"}, {query, "Name Kids On"}, {join(api.FCross, nil, table("t"), table("t")), "Name As Sub On"},
		{join(api.FLeft, on, table("t"), table("t")), "Name As Sub"},
	} {
		checkForbidden(t, f.f, f.not, func(x api.From) bool { return Query(from(x)) })
	}
}

func times64(n int) []api.Item {
	l := make([]api.Item, n)
	for i := range l {
		l[i] = one
	}
	return l
}

func ordered(l ...api.Order) api.Query {
	q := sel(one)
	q.Order = l
	return q
}

func create(n int) api.Stmt {
	s := api.Stmt{Kind: api.SCreate, Table: "t"}
	for range n {
		s.Cols = append(s.Cols, api.ColDef{Name: "a", Type: api.VText, NotNull: true})
	}
	return s
}

func with(s api.Stmt, f func(*api.Stmt)) api.Stmt {
	f(&s)
	return s
}

func TestP9_3(t *testing.T) {
	insert := api.Stmt{Kind: api.SInsert, Table: "t", Rows: [][]api.Expr{{num(1)}}}
	update := api.Stmt{Kind: api.SUpdate, Table: "t", Sets: []api.Assign{{Name: "a", E: num(1)}}}
	index := api.Stmt{Kind: api.SIndex, Table: "t", Name: "i", Names: []string{"a"}}
	key := api.KeyDef{Names: []string{"a"}}
	ref := api.RefDef{Names: []string{"a"}, Table: "t", To: []string{"a"}}
	for i, c := range []struct {
		s     api.Stmt
		right bool
		not   string
	}{
		{create(1), true, "Name Names Unique Rows Sets Where Q"}, {create(0), false, ""}, {create(16), true, ""}, {create(17), false, ""},
		{with(create(1), func(s *api.Stmt) { s.Table = "" }), false, ""}, {with(create(1), func(s *api.Stmt) { s.Cols[0].Type = 0 }), false, ""},
		{with(create(1), func(s *api.Stmt) { s.Cols[0].Type = 4 }), false, ""}, {with(create(1), func(s *api.Stmt) { s.Cols[0].Name = "" }), false, ""},
		{with(create(1), func(s *api.Stmt) { s.Keys = repeat(64, key) }), true, ""}, {with(create(1), func(s *api.Stmt) { s.Keys = repeat(65, key) }), false, ""},
		{with(create(1), func(s *api.Stmt) { s.Keys = []api.KeyDef{{Primary: true}} }), false, ""},
		{with(create(1), func(s *api.Stmt) { s.Keys = []api.KeyDef{{Names: names(16)}} }), true, ""}, {with(create(1), func(s *api.Stmt) { s.Keys = []api.KeyDef{{Names: names(17)}} }), false, ""},
		{with(create(1), func(s *api.Stmt) { s.Refs = repeat(64, ref) }), true, ""}, {with(create(1), func(s *api.Stmt) { s.Refs = repeat(65, ref) }), false, ""},
		{with(create(1), func(s *api.Stmt) { s.Refs = []api.RefDef{{Names: names(1), Table: "t"}} }), false, ""},
		{with(create(1), func(s *api.Stmt) { s.Refs = []api.RefDef{{To: names(1), Table: "t"}} }), false, ""},
		{with(create(1), func(s *api.Stmt) { s.Refs = []api.RefDef{{Names: names(2), To: names(17), Table: "t"}} }), false, ""},
		{with(create(1), func(s *api.Stmt) { s.Refs = []api.RefDef{{Names: names(2), To: names(1)}} }), false, ""},
		{with(create(1), func(s *api.Stmt) { s.Checks = times(64, num(1)) }), true, ""}, {with(create(1), func(s *api.Stmt) { s.Checks = times(65, num(1)) }), false, ""},
		{with(create(1), func(s *api.Stmt) { s.Checks = times(1, num(-1)) }), false, ""},
		{index, true, "Cols Keys Refs Checks Rows Sets Where Q"}, {with(index, func(s *api.Stmt) { s.Unique = true; s.Names = names(16) }), true, ""},
		{with(index, func(s *api.Stmt) { s.Names = names(17) }), false, ""}, {with(index, func(s *api.Stmt) { s.Names = nil }), false, ""}, {with(index, func(s *api.Stmt) { s.Name = "" }), false, ""},
		{with(index, func(s *api.Stmt) { s.Table = "" }), false, ""},
		{api.Stmt{Kind: api.SDrop, Table: "t"}, true, "Name Cols Names Unique Keys Refs Checks Rows Sets Where Q"}, {api.Stmt{Kind: api.SDrop, Name: "i"}, true, "Table"}, {api.Stmt{Kind: api.SDrop}, false, ""},
		{insert, true, "Name Cols Unique Keys Refs Checks Sets Where Q"}, {with(insert, func(s *api.Stmt) { s.Rows = nil }), false, ""}, {with(insert, func(s *api.Stmt) { s.Rows, s.Q = nil, sub }), true, "Rows"},
		{with(insert, func(s *api.Stmt) { s.Rows, s.Q = nil, append(sub, sub...) }), false, ""}, {with(insert, func(s *api.Stmt) { s.Names = names(16) }), true, ""}, {with(insert, func(s *api.Stmt) { s.Names = names(17) }), false, ""},
		{with(insert, func(s *api.Stmt) { s.Rows = repeat(64, times(1, num(1))) }), true, ""}, {with(insert, func(s *api.Stmt) { s.Rows = repeat(65, times(1, num(1))) }), false, ""},
		{with(insert, func(s *api.Stmt) { s.Rows = [][]api.Expr{times(16, num(1))} }), true, ""}, {with(insert, func(s *api.Stmt) { s.Rows = [][]api.Expr{times(17, num(1))} }), false, ""},
		{with(insert, func(s *api.Stmt) { s.Rows = [][]api.Expr{{}} }), false, ""}, {with(insert, func(s *api.Stmt) { s.Table = "" }), false, ""},
		{update, true, "Name Cols Names Unique Keys Refs Checks Rows Q"}, {with(update, func(s *api.Stmt) { s.Where = times(1, num(1)) }), true, ""}, {with(update, func(s *api.Stmt) { s.Where = times(2, num(1)) }), false, ""},
		{with(update, func(s *api.Stmt) { s.Sets = nil }), false, ""}, {with(update, func(s *api.Stmt) { s.Sets = repeat(16, s.Sets[0]) }), true, ""}, {with(update, func(s *api.Stmt) { s.Sets = repeat(17, s.Sets[0]) }), false, ""},
		{with(update, func(s *api.Stmt) { s.Sets = []api.Assign{{E: num(1)}} }), false, ""}, {with(update, func(s *api.Stmt) { s.Sets = []api.Assign{{Name: "a"}} }), false, ""},
		{api.Stmt{Kind: api.SDelete, Table: "t", Where: times(1, num(1))}, true, "Name Cols Names Unique Keys Refs Checks Rows Sets Q"}, {api.Stmt{Kind: api.SDelete}, false, ""},
		{api.Stmt{Kind: api.SQuery, Q: sub}, true, "Table Name Cols Names Unique Keys Refs Checks Rows Sets Where"}, {api.Stmt{Kind: api.SExplain, Q: sub}, true, "Table"}, {api.Stmt{Kind: api.SExplain}, false, ""},
		{api.Stmt{Kind: api.SQuery, Q: append(sub, sub...)}, false, ""}, {api.Stmt{}, false, ""}, {api.Stmt{Kind: 15}, false, ""},
	} {
		if got := Stmt(c.s); got != c.right {
			t.Errorf("%d: Stmt(%v) = %v", i, c.s, got)
		}
		checkForbidden(t, c.s, c.not, Stmt)
	}
	for _, kind := range []int{api.SBegin, api.SCommit, api.SRollback, api.SAnalyze, api.SVacuum, api.SCheck} {
		if !Stmt(api.Stmt{Kind: kind}) {
			t.Error(kind)
		}
		checkForbidden(t, api.Stmt{Kind: kind}, "Table Name Cols Names Unique Keys Refs Checks Rows Sets Where Q", Stmt)
	}
}

func repeat[T any](n int, x T) []T {
	l := make([]T, n)
	for i := range l {
		l[i] = x
	}
	return l
}

// nested returns an expression of the given depth.
func nested(n int) api.Expr {
	e := num(1)
	for range n - 1 {
		e = op(api.ENeg, e)
	}
	return e
}

func TestP9_4(t *testing.T) {
	if !Expr(nested(40)) || Expr(nested(41)) {
		t.Error("the depth of expressions")
	}
	if q := sel(api.Item{E: nested(39)}); !Query(q) || !Stmt(api.Stmt{Kind: api.SQuery, Q: []api.Query{q}}) {
		t.Error("an item has no depth of its own")
	}
	if Query(sel(api.Item{E: nested(40)})) {
		t.Error("the depth of queries")
	}
	q := from(api.From{Kind: api.FQuery, As: "x", Sub: []api.Query{sel(api.Item{E: nested(37)})}})
	deeper := from(api.From{Kind: api.FQuery, As: "x", Sub: []api.Query{sel(api.Item{E: nested(38)})}})
	if !Query(q) || Query(deeper) {
		t.Error("the depth of sources")
	}
	rows := func(n, more int) api.Stmt {
		s := api.Stmt{Kind: api.SInsert, Table: "t", Rows: repeat(n, times(16, num(1)))}
		if more > 0 {
			s.Rows = append(s.Rows, times(more, num(1)))
		}
		return s
	}
	if s := rows(25, 0); !Stmt(s) || Size(s) != 400 {
		t.Error("400 nodes")
	}
	if s := rows(25, 1); Stmt(s) || Size(s) != 401 {
		t.Error("401 nodes")
	}
	all := api.Stmt{
		Checks: times(1, num(1)), Rows: [][]api.Expr{{num(1), op(api.ENeg)}}, Sets: []api.Assign{{}}, Where: times(2, num(1)),
		Q: []api.Query{{Kids: []api.Query{{}}, Items: []api.Item{star, one, {Star: true, E: nested(5)}}, From: []api.From{{Sub: sub, Kids: []api.From{{}}, On: times(2, num(1))}},
			Where: times(1, num(1)), Group: times(2, num(1)), Having: times(1, num(1))}},
	}
	if got := Size(all); got != 1+2+1+2+(1+1+1+(1+2+1+2)+1+2+1) {
		t.Errorf("Size of an invalid statement: %d", got)
	}
	if Size(api.Stmt{}) != 0 {
		t.Error("Size of nothing")
	}
}

// vary calls f with copies of a tree that differ from it in one field, however deep.
func vary(v reflect.Value, f func()) {
	switch v.Kind() {
	case reflect.Struct:
		for i := range v.NumField() {
			vary(v.Field(i), f)
		}
	case reflect.Slice:
		old := v.Interface()
		for i := range v.Len() {
			vary(v.Index(i), f)
		}
		v.Set(reflect.Append(v, reflect.Zero(v.Type().Elem())))
		f()
		v.Set(reflect.ValueOf(old))
	case reflect.Int:
		v.SetInt(v.Int() + 1)
		f()
		v.SetInt(v.Int() - 1)
	case reflect.Bool:
		v.SetBool(!v.Bool())
		f()
		v.SetBool(!v.Bool())
	case reflect.String:
		old := v.String()
		v.SetString(old + "x")
		f()
		v.SetString(old)
	}
}

func full() api.Stmt {
	sub := []api.Query{sel(one)}
	e := api.Expr{Op: api.EInSub, Kids: times(1, col("t", "a")), Sub: []api.Query{from(join(api.FLeft, times(1, num(1)), table("t"), api.From{Kind: api.FQuery, Sub: sub, As: "x"}))}}
	q := api.Query{Op: api.QUnion, Kids: []api.Query{ordered(api.Order{Name: "a"}), sel(api.Item{E: e})}, Where: times(1, e), Group: times(1, e), Having: times(1, e)}
	return api.Stmt{
		Kind: 1, Table: "t", Name: "n", Cols: create(1).Cols, Names: names(1), Unique: true, Keys: []api.KeyDef{{Names: names(1)}},
		Refs: []api.RefDef{{Names: names(1), Table: "t", To: names(1)}}, Checks: times(1, e), Rows: [][]api.Expr{{e}}, Sets: []api.Assign{{Name: "a", E: e}},
		Where: times(1, e), Q: []api.Query{q},
	}
}

func TestP9_5(t *testing.T) {
	n := 0
	a, b := full(), full()
	vary(reflect.ValueOf(&a).Elem(), func() {
		n++
		if SameStmt(a, b) || SameStmt(b, a) {
			t.Errorf("change %d makes no difference", n)
		}
	})
	qa, qb := full().Q[0], full().Q[0]
	vary(reflect.ValueOf(&qa).Elem(), func() {
		if SameQuery(qa, qb) {
			t.Error("a query that differs is the same")
		}
	})
	ea, eb := full().Where[0], full().Where[0]
	vary(reflect.ValueOf(&ea).Elem(), func() {
		if SameExpr(ea, eb) {
			t.Error("an expression that differs is the same")
		}
	})
	if !SameStmt(a, b) || !SameQuery(qa, qb) || !SameExpr(ea, eb) || n < 200 {
		t.Error("a tree is not the same as itself")
	}
	if !SameStmt(api.Stmt{Names: []string{}, Rows: [][]api.Expr{{}}}, api.Stmt{Rows: [][]api.Expr{nil}}) {
		t.Error("nil and empty lists are equal")
	}
	for _, c := range exprCases() {
		if !Expr(c.e) {
			continue
		}
		for _, k := range c.e.Kids {
			if !Expr(k) {
				t.Error(fmt.Sprint("a part of ", c.e))
			}
		}
		for _, k := range c.e.Sub {
			if !Query(k) {
				t.Error(fmt.Sprint("a part of ", c.e))
			}
		}
	}
}
