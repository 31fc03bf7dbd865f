package schema

import (
	"fmt"
	"math/rand"
	"reflect"
	"strings"
	"testing"

	"tabellion/api"
	"tabellion/clone"
	"tabellion/parse"
)

func stmt(t *testing.T, sql string) api.Stmt {
	t.Helper()
	s, at, err := parse.Stmt(sql)
	if err != api.OK {
		t.Fatalf("%s: %d at %d", sql, err, at)
	}
	return s
}

// apply executes a statement on a catalog.
func apply(c api.Catalog, s api.Stmt) (api.Catalog, api.Errno) {
	switch s.Kind {
	case api.SCreate:
		return Create(c, s)
	case api.SIndex:
		return Index(c, s)
	}
	return Drop(c, s)
}

// catalog executes statements, separated by semicolons, starting from an empty catalog.
func catalog(t *testing.T, sql string) api.Catalog {
	t.Helper()
	c := api.Catalog{Next: 1}
	for _, s := range strings.Split(sql, ";") {
		if strings.TrimSpace(s) == "" {
			continue
		}
		var err api.Errno
		if c, err = apply(c, stmt(t, s)); err != api.OK {
			t.Fatalf("%s: %d", s, err)
		}
	}
	return c
}

const some = `create table t (a int not null, b text, c bool, primary key (a), unique (b, a), check (a > 0));
	create index i on t (c, a); create unique index j on t (b);
	create table u (x int, y text, foreign key (x) references t (a), foreign key (y, x) references t (b, a), unique (x), foreign key (x) references u (x));
	create index k on u (y)`

func TestP12_1(t *testing.T) {
	c := catalog(t, some)
	if !Right(c) || !Right(api.Catalog{Next: 1}) || !Right(api.Catalog{Next: 1 << 40}) {
		t.Fatal("a valid catalog is rejected")
	}
	for i, spoil := range []func(*api.Catalog){
		func(c *api.Catalog) { c.Next = 0 },
		func(c *api.Catalog) { c.Next = 1<<40 + 1 },
		func(c *api.Catalog) { c.Next = 8 },
		func(c *api.Catalog) { c.Tables[0].Id = 0 },
		func(c *api.Catalog) { c.Tables[0].Id = 7 },
		func(c *api.Catalog) { c.Tables[0].Id = 2 },
		func(c *api.Catalog) { c.Indexes[0].Id, c.Indexes[2].Id, c.Tables[0].Keys[0].Index = 4, 2, 4 },
		func(c *api.Catalog) { c.Tables[0], c.Tables[1] = c.Tables[1], c.Tables[0] },
		func(c *api.Catalog) { c.Tables[1].Name = "t" },
		func(c *api.Catalog) { c.Tables[1].Name = "U" },
		func(c *api.Catalog) { c.Tables[0].Cols[1].Name = "a" },
		func(c *api.Catalog) { c.Tables[0].Cols[1].Name = "" },
		func(c *api.Catalog) { c.Tables[0].Cols[2].Type = api.VNull },
		func(c *api.Catalog) { c.Tables[0].Cols[2].Type = 4 },
		func(c *api.Catalog) { c.Tables[1].Cols = nil },
		func(c *api.Catalog) {
			for i := range 14 {
				c.Tables[0].Cols = append(c.Tables[0].Cols, api.ColDef{Name: fmt.Sprint("n", i), Type: api.VInt})
			}
		},
		func(c *api.Catalog) { c.Tables[0].Keys[1].Primary = true },
		func(c *api.Catalog) { c.Tables[0].Keys[1].Cols = nil; c.Indexes[1].Cols = nil },
		func(c *api.Catalog) { c.Tables[0].Keys[1].Cols = []int{1, 1}; c.Indexes[1].Cols = []int{1, 1} },
		func(c *api.Catalog) { c.Tables[0].Keys[1].Cols = []int{1, 3}; c.Indexes[1].Cols = []int{1, 3} },
		func(c *api.Catalog) { c.Tables[0].Keys[1].Cols = []int{-1}; c.Indexes[1].Cols = []int{-1} },
		func(c *api.Catalog) { c.Tables[0].Keys[1].Cols = []int{0, 1} },
		func(c *api.Catalog) { c.Tables[0].Keys[1].Index = 2 },
		func(c *api.Catalog) { c.Tables[0].Keys[1].Index = 99 },
		func(c *api.Catalog) { c.Indexes[1].Unique = false },
		func(c *api.Catalog) { c.Indexes[1].Name = "t_3" },
		func(c *api.Catalog) { c.Indexes[1].Table = "u" },
		func(c *api.Catalog) { c.Tables[1].Refs[0].Cols = nil },
		func(c *api.Catalog) { c.Tables[1].Refs[0].Cols = []int{2} },
		func(c *api.Catalog) { c.Tables[1].Refs[1].Cols = []int{0, 0} },
		func(c *api.Catalog) { c.Tables[1].Refs[1].Cols = []int{0, 1} },
		func(c *api.Catalog) { c.Tables[1].Refs[1].Cols = []int{1} },
		func(c *api.Catalog) { c.Tables[1].Refs[1].To = []int{0, 1} },
		func(c *api.Catalog) { c.Tables[1].Refs[0].To = []int{1} },
		func(c *api.Catalog) { c.Tables[1].Refs[0].To = nil },
		func(c *api.Catalog) { c.Tables[1].Refs[0].Table = "v" },
		func(c *api.Catalog) { c.Tables[0].Checks = append(c.Tables[0].Checks, api.Expr{}) },
		func(c *api.Catalog) { c.Indexes[2].Table = "v" },
		func(c *api.Catalog) { c.Indexes[2].Cols = nil },
		func(c *api.Catalog) { c.Indexes[2].Cols = []int{1, 1} },
		func(c *api.Catalog) { c.Indexes[2].Cols = []int{3} },
		func(c *api.Catalog) { c.Indexes[2].Name = "j" },
		func(c *api.Catalog) { c.Indexes[2].Name = "I" },
		func(c *api.Catalog) { c.Indexes[2].Name = "" },
		func(c *api.Catalog) { c.Indexes = c.Indexes[1:] },
		func(c *api.Catalog) { c.Tables = c.Tables[1:] },
		func(c *api.Catalog) {
			for i := range 60 {
				c.Indexes = append(c.Indexes, api.Index{Name: fmt.Sprint("n", i), Id: 100 + i, Table: "t", Cols: []int{0}})
			}
			c.Next = 200
		},
		func(c *api.Catalog) {
			for i := range 31 {
				c.Tables = append(c.Tables, api.Table{Name: fmt.Sprint("n", i), Id: 100 + i, Cols: c.Tables[0].Cols})
			}
			c.Next = 200
		},
	} {
		bad := clone.Catalog(c)
		spoil(&bad)
		if Right(bad) {
			t.Errorf("catalog %d is accepted", i)
		}
		for _, sql := range []string{"create table z (a int)", "create index z on t (a)", "drop index i", "drop table u"} {
			if got, err := apply(bad, stmt(t, sql)); err != api.ErrArg || !reflect.DeepEqual(got, bad) {
				t.Errorf("catalog %d, %s: %d", i, sql, err)
			}
		}
	}
	long := catalog(t, "create table abcdefghijklmnopqrst (a int, unique (a))")
	if !Right(long) || len(long.Indexes[0].Name) != 22 {
		t.Error("the name of a key's index may be longer than a name")
	}
	long.Indexes[0].Id, long.Tables[0].Keys = 2, nil
	if Right(long) {
		t.Error("another index's may not")
	}
}

func TestP12_2(t *testing.T) {
	c := catalog(t, "create table t (a int, unique (a))")
	want := api.Catalog{
		Tables:  []api.Table{{Name: "t", Id: 1, Cols: []api.ColDef{{Name: "a", Type: api.VInt}}, Keys: []api.Key{{Cols: []int{0}, Index: 2}}}},
		Indexes: []api.Index{{Name: "t_1", Id: 2, Table: "t", Cols: []int{0}, Unique: true}}, Next: 3,
	}
	if !reflect.DeepEqual(c, want) {
		t.Errorf("%+v", c)
	}
	c = catalog(t, some)
	if u := c.Tables[1]; u.Id != 6 || !reflect.DeepEqual(u.Refs, []api.Ref{{Cols: []int{0}, Table: "t", To: []int{0}}, {Cols: []int{1, 0}, Table: "t", To: []int{1, 0}}, {Cols: []int{0}, Table: "u", To: []int{0}}}) || c.Next != 9 {
		t.Errorf("%+v", c)
	}
	taken := catalog(t, "create table t (a int); create index n_2 on t (a)")
	full := catalog(t, "")
	for i := range 32 {
		full, _ = Create(full, stmt(t, fmt.Sprintf("create table n%d (a int, unique (a))", i)))
	}
	keys := strings.Repeat(", unique (a)", 63)
	many := catalog(t, "create table t (a int"+keys+")")
	last := api.Catalog{Next: 1<<40 - 1}
	for _, x := range []struct {
		c   api.Catalog
		sql string
		err api.Errno
	}{
		{c, "create index z on t (a)", api.ErrArg}, {c, "create table t (z int)", api.ErrTwice}, {c, "create table z (a int, a text)", api.ErrTwice},
		{c, "create table z (a int, unique (a, a))", api.ErrTwice}, {c, "create table z (a int, unique (b, b))", api.ErrTwice},
		{c, "create table z (a int, foreign key (a, a) references nothing (b))", api.ErrTwice}, {c, "create table z (a int, primary key (a), primary key (b))", api.ErrTwice},
		{taken, "create table n (a int, unique (a), unique (a))", api.ErrTwice}, {taken, "create table n (a int, unique (a))", api.OK},
		{full, "create table z (a int)", api.ErrFull}, {full, "create table z (a int, unique (b))", api.ErrFull}, {full, "create table n1 (a int)", api.ErrTwice},
		{many, "create table z (a int, unique (a))", api.OK}, {many, "create table z (a int, unique (a), unique (b))", api.ErrFull},
		{last, "create table z (a int)", api.OK}, {last, "create table z (a int, unique (a))", api.ErrFull},
		{c, "create table z (a int, unique (a), unique (b))", api.ErrName}, {c, "create table z (a int, unique (b), foreign key (a) references t (c))", api.ErrName},
		{c, "create table z (a int, foreign key (b) references t (a))", api.ErrName}, {c, "create table z (a int, foreign key (a) references v (a))", api.ErrName},
		{c, "create table z (a int, foreign key (a) references t (z))", api.ErrName}, {c, "create table z (a int, b text, foreign key (a, b) references t (a))", api.ErrCount},
		{c, "create table z (a int, foreign key (a) references t (b))", api.ErrNone}, {c, "create table z (a int, b text, foreign key (a, b) references t (a, b))", api.ErrNone},
		{c, "create table z (a int, b text, foreign key (a, b) references t (a, a))", api.ErrNone},
		{c, "create table z (a text, foreign key (a) references t (a))", api.ErrType}, {c, "create table z (a int, b text, foreign key (a, b) references t (b, a))", api.ErrType},
		{c, "create table z (a int, foreign key (a) references z (a))", api.ErrNone}, {c, "create table z (a int, foreign key (a) references z (a), unique (a))", api.OK},
		{c, "create table z (a int, foreign key (a) references t (b), foreign key (b) references t (a))", api.ErrNone},
		{c, "create table z (a int, unique (a), foreign key (a) references t (b))", api.ErrNone},
	} {
		got, err := apply(x.c, stmt(t, x.sql))
		if x.err == api.ErrArg {
			got, err = Create(x.c, stmt(t, x.sql))
		}
		if err != x.err || err != api.OK && !reflect.DeepEqual(got, x.c) {
			t.Errorf("%s: %d, want %d", x.sql, err, x.err)
		}
	}
	if _, err := Create(c, api.Stmt{Kind: api.SCreate}); err != api.ErrArg {
		t.Error(err)
	}
}

func TestP12_3(t *testing.T) {
	c := catalog(t, "create table t (a int, b text)")
	got, err := Index(c, stmt(t, "create unique index i on t (b, a)"))
	if err != api.OK || !reflect.DeepEqual(got.Indexes, []api.Index{{Name: "i", Id: 2, Table: "t", Cols: []int{1, 0}, Unique: true}}) || got.Next != 3 {
		t.Errorf("%v %d", got, err)
	}
	full := c
	for i := range 64 {
		full, _ = Index(full, stmt(t, fmt.Sprintf("create index n%d on t (a)", i)))
	}
	end := clone.Catalog(got)
	end.Next = 1 << 40
	for _, x := range []struct {
		c   api.Catalog
		sql string
		err api.Errno
	}{
		{got, "create index i on z (a)", api.ErrTwice}, {c, "create index i on z (a, a)", api.ErrTwice}, {c, "create index i on z (a)", api.ErrName}, {c, "create index i on t (a, z)", api.ErrName},
		{full, "create index n1 on t (a)", api.ErrTwice}, {full, "create index i on z (a)", api.ErrFull}, {end, "create index j on t (a)", api.ErrFull}, {got, "drop index i", api.ErrArg},
	} {
		if again, err := Index(x.c, stmt(t, x.sql)); err != x.err || !reflect.DeepEqual(again, x.c) {
			t.Errorf("%s: %d", x.sql, err)
		}
	}
	if len(full.Indexes) != 64 {
		t.Error(len(full.Indexes))
	}
}

func TestP12_4(t *testing.T) {
	c := catalog(t, some)
	for sql, want := range map[string]api.Errno{
		"drop table z": api.ErrName, "drop table t": api.ErrRef, "drop index z": api.ErrName, "drop index t_1": api.ErrState, "drop index t": api.ErrName,
		"create index z on t (a)": api.ErrArg,
	} {
		if got, err := Drop(c, stmt(t, sql)); err != want || !reflect.DeepEqual(got, c) {
			t.Errorf("%s: %d", sql, err)
		}
	}
	got, err := Drop(c, stmt(t, "drop table u"))
	if err != api.OK || len(got.Tables) != 1 || len(got.Indexes) != 4 || got.Next != c.Next || !Right(got) {
		t.Errorf("%v %d", got, err)
	}
	got, err = Drop(got, stmt(t, "drop table t"))
	if err != api.OK || len(got.Tables)+len(got.Indexes) != 0 || got.Next != c.Next {
		t.Errorf("%v %d", got, err)
	}
	got, err = Drop(c, stmt(t, "drop index j"))
	if err != api.OK || len(got.Indexes) != len(c.Indexes)-1 || hasIndex(got, "j") || !Right(got) {
		t.Errorf("%v %d", got, err)
	}
}

func TestP12_5(t *testing.T) {
	c := catalog(t, some)
	if u, ok := Find(c, "u"); !ok || !reflect.DeepEqual(u, c.Tables[1]) {
		t.Error(u, ok)
	}
	if z, ok := Find(c, "z"); ok || !reflect.DeepEqual(z, api.Table{}) {
		t.Error(z, ok)
	}
	double := api.Catalog{Tables: []api.Table{{Name: "t", Id: 1}, {Name: "t", Id: 2}}}
	if x, _ := Find(double, "t"); x.Id != 1 {
		t.Error("Find returns the first table")
	}
	var l []string
	for _, i := range Indexes(c, "t") {
		l = append(l, i.Name)
	}
	if fmt.Sprint(l) != "[t_1 t_2 i j]" || len(Indexes(c, "z")) != 0 {
		t.Error(l)
	}
	if got := Cols(c.Tables[1], "x"); fmt.Sprint(got) != "[{x x 2} {x y 3}]" {
		t.Error(got)
	}
}

func TestP12_6(t *testing.T) {
	c := catalog(t, some)
	want := []string{
		"create table t (a int not null, b text, c bool, primary key (a), unique (b, a), check (a > 0))", "create index i on t (c, a)", "create unique index j on t (b)",
		"create table u (x int, y text, unique (x), foreign key (x) references t (a), foreign key (y, x) references t (b, a), foreign key (x) references u (x))",
		"create index k on u (y)",
	}
	if got := Texts(c); !reflect.DeepEqual(got, want) {
		t.Errorf("%q", got)
	}
	c.Tables[0].Keys[0].Cols = []int{7}
	c.Indexes[2].Table = "z"
	if got := Texts(c); got[0] != "" || got[1] != "" || got[2] != want[2] {
		t.Errorf("%q", got)
	}
	if len(Texts(api.Catalog{})) != 0 {
		t.Error("texts of nothing")
	}
}

// random makes a random statement about a few tables and indexes.
func random(r *rand.Rand) string {
	one := func(l ...string) string { return l[r.Intn(len(l))] }
	table, index := one("t", "u", "v"), one("i", "j", "k")
	switch r.Intn(5) {
	case 0, 1:
		s := "create table " + table + " (a int, b text"
		for range r.Intn(3) {
			s += ", " + one("unique (a)", "unique (b, a)", "primary key (b)", "foreign key (a) references "+one("t", "u", "v")+" (a)", "foreign key (b, a) references "+one("t", "u", "v")+" (b, a)", "check (a > 1)")
		}
		return s + ")"
	case 2:
		return "create index " + index + " on " + table + " (" + one("a", "b", "a, b") + ")"
	case 3:
		return "drop index " + one(index, table+"_1")
	}
	return "drop table " + table
}

func TestP12_7(t *testing.T) {
	r := rand.New(rand.NewSource(12))
	c := api.Catalog{Next: 1}
	done := 0
	for range 3000 {
		s := stmt(t, random(r))
		next, err := apply(c, s)
		if !Right(next) {
			t.Fatalf("%v: not valid", s)
		}
		if err != api.OK {
			continue
		}
		done++
		if s.Kind != api.SDrop {
			back, err := Drop(next, api.Stmt{Kind: api.SDrop, Table: orEmpty(s.Kind == api.SCreate, s.Table), Name: s.Name})
			back.Next = c.Next
			if err != api.OK || fmt.Sprint(back) != fmt.Sprint(c) {
				t.Fatalf("%v: dropping it leaves %v of %v", s, back, c)
			}
		}
		c = next
		again := catalog(t, strings.Join(Texts(c), ";"))
		if fmt.Sprint(Texts(again)) != fmt.Sprint(Texts(c)) {
			t.Fatalf("%q", Texts(again))
		}
	}
	if done < 500 {
		t.Error("only", done, "statements were executed")
	}
}

func orEmpty(is bool, s string) string {
	if is {
		return s
	}
	return ""
}
