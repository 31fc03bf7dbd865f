package constr

import (
	"math/rand"
	"testing"

	"tabellion/api"
	"tabellion/bind"
	"tabellion/parse"
	"tabellion/schema"
	"tabellion/value"
)

func catalog(t *testing.T, sql ...string) api.Catalog {
	t.Helper()
	c := api.Catalog{Next: 1}
	for _, x := range sql {
		s, _, err := parse.Stmt(x)
		if err == api.OK && s.Kind == api.SCreate {
			c, err = schema.Create(c, s)
		} else if err == api.OK {
			c, err = schema.Index(c, s)
		}
		if err != api.OK {
			t.Fatal(x, err)
		}
	}
	return c
}

func row(l ...any) api.Row {
	var r api.Row
	for _, x := range l {
		switch x := x.(type) {
		case nil:
			r = append(r, api.Value{})
		case int:
			r = append(r, value.Num(x))
		case string:
			r = append(r, value.Str(x))
		}
	}
	return r
}

func TestP52_1(t *testing.T) {
	c := catalog(t, "create table t (a int not null, b text, check (a > 1), check (b <> 'x' or a = 2))")
	table := c.Tables[0]
	checks, err := bind.Checks(table)
	if err != api.OK {
		t.Fatal(err)
	}
	for i, x := range []struct {
		r   api.Row
		err api.Errno
	}{
		{row(2, "x"), 0}, {row(3, "y"), 0}, {row(3, nil), 0}, {row(3), api.ErrCount}, {row(3, "y", 1), api.ErrCount}, {nil, api.ErrCount}, {row(nil, "y"), api.ErrNull}, {row("y", 3), api.ErrType}, {row(3, 3), api.ErrType}, {row(nil, 3), api.ErrNull}, {row(api.MaxNum+1, 3), api.ErrArg},
		{row(1, "y"), api.ErrCheck}, {row(3, "x"), api.ErrCheck}, {row(1, 3), api.ErrType},
	} {
		if got := Row(table, checks, x.r); got != x.err {
			t.Errorf("%d: %d", i, got)
		}
	}
	if Row(table, nil, row(1, "x")) != api.OK || Row(api.Table{}, checks, nil) != api.OK {
		t.Error("a check that is Maybe is satisfied")
	}
}

func TestP52_2(t *testing.T) {
	table := api.Table{Keys: []api.Key{{Cols: []int{1}}, {Primary: true, Cols: []int{0, 2}}}}
	for i, x := range []struct {
		l   []api.Row
		err api.Errno
	}{
		{nil, 0}, {[]api.Row{row(1, nil, 1), row(1, nil, 2)}, 0}, {[]api.Row{row(1, 5, 1), row(2, 5, 2)}, api.ErrKey}, {[]api.Row{row(1, 5, 1), row(1, 6, 1)}, api.ErrKey}, {[]api.Row{row(1, 5, nil)}, api.ErrNull}, {[]api.Row{row(1, 5)}, api.ErrNull}, {[]api.Row{row(1, 5, 1), row(2, "5", 2)}, 0},
		{[]api.Row{row(1, 5, nil), row(1, 6, 1), row(1, 7, 1)}, api.ErrNull}, {[]api.Row{row(1, 5, nil), row(2, 5, 1)}, api.ErrKey}, {[]api.Row{row(1, 5, 1), row(2, 5, nil)}, api.ErrKey},
	} {
		if got := Keys(table, x.l); got != x.err {
			t.Errorf("%d: %d", i, got)
		}
	}
	if Keys(api.Table{Keys: []api.Key{{Cols: []int{-1, 9}}}}, []api.Row{row(1), row(1)}) != api.OK {
		t.Error("columns that do not exist count as null")
	}
}

const references = "create table u (a int, x int, foreign key (x) references t (a), foreign key (a, x) references u (x, a), unique (x, a))"

func TestP52_3(t *testing.T) {
	c := catalog(t, "create table t (b text, a int, unique (a))", "create table u (x int, y int, foreign key (x) references t (a), unique (y, x), foreign key (x, y) references u (y, x))")
	data := func(tt, u []api.Row) []api.Data {
		return []api.Data{{Table: "u", Rows: u}, {Table: "t", Rows: tt}, {Table: "u", Rows: []api.Row{row(9, 9)}}}
	}
	for i, x := range []struct {
		t, u []api.Row
		err  api.Errno
	}{
		{nil, nil, 0}, {[]api.Row{row("a", 1)}, []api.Row{row(1, 1)}, 0}, {[]api.Row{row("a", 1)}, []api.Row{row(2, 2)}, api.ErrRef}, {nil, []api.Row{row(nil, 2)}, 0}, {[]api.Row{row("a", 1)}, []api.Row{row(1, nil)}, 0}, {[]api.Row{row("a", 1)}, []api.Row{row(1, 2)}, api.ErrRef},
		{[]api.Row{row("a", 1), row("a", 2)}, []api.Row{row(1, 2), row(2, 1)}, 0}, {[]api.Row{row("a", nil)}, []api.Row{row(1, 1)}, api.ErrRef}, {[]api.Row{row("a", 1), row("a", 2)}, []api.Row{row(1, 1), row(2, 3)}, api.ErrRef},
	} {
		if got := Refs(c, data(x.t, x.u)); got != x.err {
			t.Errorf("%d: %d", i, got)
		}
	}
	if Refs(c, nil) != api.OK || Refs(c, []api.Data{{Table: "u", Rows: []api.Row{row(1, 1)}}}) != api.ErrRef {
		t.Error("tables without data have no rows")
	}
}

func TestP52_4(t *testing.T) {
	c := catalog(t, "create table t (a int not null, b text, c int, primary key (a), check (c < 5))", "create unique index i on t (b, c)", "create index j on t (c)", "create table u (x int, foreign key (x) references t (a))")
	for i, x := range []struct {
		t, u []api.Row
		err  api.Errno
	}{
		{[]api.Row{row(1, "a", 1), row(2, "a", nil), row(3, "a", nil), row(4, "b", 1)}, []api.Row{row(1), row(1), row(nil)}, 0}, {[]api.Row{row(1, "a", 1), row(2, "a", 1)}, nil, api.ErrKey}, {[]api.Row{row(1, "a", 1), row(1, "b", 1)}, nil, api.ErrKey}, {[]api.Row{row(1, "a", 5)}, nil, api.ErrCheck},
		{[]api.Row{row(1, "a", 1), row(1, "b", 5)}, []api.Row{row(7)}, api.ErrCheck}, {[]api.Row{row(1, "a", 1), row(1, "a")}, nil, api.ErrCount}, {[]api.Row{row(1, "a", 1), row(1, "b", 2)}, []api.Row{row("x")}, api.ErrKey}, {[]api.Row{row(1, "a", 1)}, []api.Row{row(7)}, api.ErrRef}, {[]api.Row{row(1, "a", 1)}, []api.Row{row(7), row("x")}, api.ErrType}, {[]api.Row{row(nil, "a", 1)}, nil, api.ErrNull},
	} {
		if got := All(c, []api.Data{{Table: "t", Rows: x.t}, {Table: "u", Rows: x.u}}); got != x.err {
			t.Errorf("%d: %d", i, got)
		}
	}
	bad := catalog(t, "create table t (a int, check (b > 1))", "create table u (a int, check (a + 1))")
	if All(bad, nil) != api.ErrName {
		t.Error("the error of binding the checks")
	}
	bad.Tables = bad.Tables[1:]
	if All(bad, nil) != api.ErrType {
		t.Error("a check that is no condition")
	}
	loose := c
	loose.Indexes = append([]api.Index{}, c.Indexes...)
	loose.Tables = append([]api.Table{}, c.Tables...)
	loose.Tables[0].Keys = nil
	if All(loose, []api.Data{{Table: "t", Rows: []api.Row{row(1, "a", 1), row(1, "b", 1)}}}) != api.ErrKey {
		t.Error("a unique index of no key")
	}
	if All(api.Catalog{}, nil) != api.OK {
		t.Error("nothing")
	}
}

func TestP52_5(t *testing.T) {
	c := catalog(t, "create table t (a int, b int, unique (a), primary key (b))", references)
	r := rand.New(rand.NewSource(52))
	accepted := 0
	number := func() any {
		if r.Intn(5) == 0 {
			return nil
		}
		return r.Intn(4)
	}
	for range 5000 {
		db := []api.Data{{Table: "t"}, {Table: "u"}}
		for range r.Intn(3) {
			db[0].Rows = append(db[0].Rows, row(number(), number()))
			db[1].Rows = append(db[1].Rows, row(number(), number()))
		}
		err := All(c, db)
		l := db[1].Rows
		r.Shuffle(len(l), func(i, j int) { l[i], l[j] = l[j], l[i] })
		l = db[0].Rows
		r.Shuffle(len(l), func(i, j int) { l[i], l[j] = l[j], l[i] })
		if again := All(c, db); (again == api.OK) != (err == api.OK) {
			t.Fatal(err, again)
		}
		if err != api.OK {
			continue
		}
		accepted++
		if len(l) > 0 {
			fewer := []api.Data{db[0], {Table: "u"}}
			if err := All(c, fewer); err != api.OK {
				t.Fatal(err)
			}
		}
	}
	if accepted < 200 {
		t.Error(accepted)
	}
}
