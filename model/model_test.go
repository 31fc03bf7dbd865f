package model

import (
	"fmt"
	"math/rand"
	"reflect"
	"strings"
	"testing"

	"tabellion/api"
	"tabellion/script"
	"tabellion/value"
)

var size = api.Size{Log: 6000, Pages: 120, Frames: 6}

func acts(t *testing.T, l ...string) []api.Act {
	t.Helper()
	a, line, err := script.Parse(strings.Join(l, "\n") + "\n")
	if err != api.OK {
		t.Fatal(line, err)
	}
	return a
}

func lines(l []api.Reply) string {
	var out []string
	for _, r := range l {
		out = append(out, strings.Join(script.Line(r), "; "))
	}
	return strings.Join(out, "\n")
}

// agree runs a script and compares the replies with those of the model.
func agree(t *testing.T, l []api.Act) []api.Reply {
	t.Helper()
	seen := script.Run(size, l)
	if got := Run(l, seen); lines(got) != lines(seen) {
		text, _ := script.Print(l)
		t.Fatalf("%s\nthe model replies\n%s\nobserved was\n%s", text, lines(got), lines(seen))
	}
	return seen
}

func TestP59_1(t *testing.T) {
	agree(t, acts(t, "0: create table t (a int not null, b text, c int, unique (a), check (c < 50))", "0: create table u (x int, foreign key (x) references t (a))", "0: create table t (a int)", "0: create table z (a int, check (a))", "0: create index i on t (b)", "0: create index i on t (b)",
		"0: insert into t values (1, 'x', 3), (2, 'y', null)", "0: insert into t values (1, 'x', 3)", "0: insert into t values (3, 'x', 50)", "0: insert into t (b) values ('x')", "0: insert into t select a + 10, b, c from t", "0: insert into u values (1), (77)", "0: insert into u values (1), (null)", "0: select * from t, u order by 1",
		"1: begin", "1: update t set b = b || 'z' where a < 10", "1: delete from u where x is null", "1: insert into t values (50, null, 1), (51, null, 2)", "1: select * from t", "2: select * from t", "1: create table y (a int)", "2: update t set c = 7 where a = 1", "1: commit", "1: begin", "1: begin", "1: rollback", "1: rollback", "1: commit",
		"0: select count(*), max(c) from t", "0: create unique index j on t (b)", "0: create unique index j on t (c)", "0: insert into t values (90, 'q', 11)", "0: insert into t values (91, 'q', 11)", "0: delete from t where a = 1", "0: drop table t", "0: drop table u", "0: drop index t_1", "0: drop index j", "0: analyze", "0: vacuum", "0: vacuum", "0: checkpoint", "checkpoint", "flush 3",
		"0: explain select * from t where a = 1", "0: select", "0: select z from t", "3: drop table t", "3: select * from t", "0: begin", "0: create table v (a int)", "0: rollback"))
	// What only the run can know.
	text := func(s string) api.Act { return api.Act{Kind: api.AText, Text: s} }
	create, insert := text("create table t (a int)"), text("insert into t values (1)")
	ok := api.Reply{Kind: api.SCreate}
	for i, c := range []struct {
		l    []api.Act
		seen []api.Reply
		want string
	}{
		{nil, nil, ""}, {[]api.Act{create}, nil, ""}, {nil, []api.Reply{ok}, ""}, {[]api.Act{create, insert, text("select a from t")}, make([]api.Reply, 3), "reply 1 0 0\nreply 4 0 1\nreply 7 0 1; cols a; row 1"}, {[]api.Act{create, insert}, []api.Reply{ok, {E: api.ErrFull}}, "reply 1 0 0\nreply 4 18 0"},
		{[]api.Act{create, insert, text("select a from t")}, []api.Reply{ok, {E: api.ErrLong}, {}}, "reply 1 0 0\nreply 4 4 0\nreply 7 0 0; cols a"}, {[]api.Act{text("begin"), text("begin"), text("rollback")}, []api.Reply{{E: api.ErrFull}, {E: api.ErrLong}, {E: api.ErrFull}}, "reply 8 0 0\nreply 8 17 0\nreply 10 0 0"},
		{[]api.Act{create, text("begin"), insert, text("commit"), text("commit"), text("select a from t")}, []api.Reply{ok, {}, {}, {E: api.ErrFull}, {}, {}}, "reply 1 0 0\nreply 8 0 0\nreply 4 0 1\nreply 9 18 0\nreply 9 17 0\nreply 7 0 0; cols a"},
		{[]api.Act{create}, []api.Reply{{E: api.ErrDown}}, "reply 1 0 0"}, {[]api.Act{{Kind: api.APower, N: 3}, create, create, {Kind: api.ACheck}, {Kind: api.AFlush}, {Kind: api.APower, N: -1}, text("x"), {Kind: 9}, {Who: 7, Kind: api.AText}}, []api.Reply{{}, {E: api.ErrDown}, {}, {}, {}, {}, {}, {}, {}}, "reply 0 0 0\nreply 1 20 0\nreply 0 20 0\nreply 0 20 0\nreply 0 20 0\nreply 0 0 0\nreply 0 20 0\nreply 0 1 0\nreply 0 1 0"},
		{[]api.Act{{Kind: api.APower, N: 3}, {Kind: api.APower, N: -1}, create}, []api.Reply{{}, {}, {E: api.ErrDown}}, "reply 0 0 0\nreply 0 0 0\nreply 1 0 0"}, {[]api.Act{{Kind: api.APower, N: 3}, {Kind: api.AOpen}, create}, []api.Reply{{}, {}, {E: api.ErrDown}}, "reply 0 0 0\nreply 0 0 0\nreply 1 0 0"},
		{[]api.Act{{Kind: api.APower}, {Kind: api.AFlush}, {Kind: api.ACheck}}, []api.Reply{{}, {E: api.ErrDown}, {}}, "reply 0 0 0\nreply 0 20 0\nreply 0 20 0"}, {[]api.Act{{Kind: api.APower}, {Kind: api.ACheck}, {Kind: api.AFlush}}, []api.Reply{{}, {E: api.ErrDown}, {}}, "reply 0 0 0\nreply 0 20 0\nreply 0 20 0"},
		{[]api.Act{{Kind: api.AFlush}, {Kind: api.AFlush}, {Kind: api.ACheck}, {Kind: api.ACheck}, {Kind: api.AFlush}}, []api.Reply{{E: api.ErrFull}, {E: api.ErrArg}, {E: api.ErrFull}, {E: api.ErrArg}, {E: api.ErrDown}}, "reply 0 18 0\nreply 0 1 0\nreply 0 18 0\nreply 0 0 0\nreply 0 0 0"},
		{[]api.Act{{Kind: api.APower}, text("select z"), text("select")}, []api.Reply{{}, {}, {E: api.ErrDown}}, "reply 0 0 0\nreply 7 6 0\nreply 0 3 6"}, {[]api.Act{create, text("explain select a from t")}, []api.Reply{ok, {Kind: 11, Text: []string{"plan", "x"}, N: 4}}, "reply 1 0 0\nreply 11 0 0; text plan; text x"},
		{[]api.Act{text("create table t (a int" + strings.Repeat(", check (a <> 1 or a <> 2 or a <> 3 or a <> 4)", 9) + ")")}, make([]api.Reply, 1), "reply 1 4 0"},
	} {
		if got := lines(Run(c.l, c.seen)); got != c.want {
			t.Errorf("%d: %s\nwant %s", i, got, c.want)
		}
	}
}

func TestP59_2(t *testing.T) {
	l := acts(t, "0: create table t (a int)", "power 3", "0: insert into t values (1)", "0: select * from t", "open", "0: select * from t", "0: insert into t values (2)")
	rows := func(n ...int) api.Reply {
		r := api.Reply{Kind: api.SQuery, N: len(n), Cols: []api.Col{{Table: "t", Name: "a", Type: api.VInt}}}
		for _, x := range n {
			r.Rows = append(r.Rows, api.Row{value.Num(x)})
		}
		return r
	}
	down := api.Reply{Kind: api.SInsert, E: api.ErrDown}
	one := api.Reply{Kind: api.SInsert, N: 1}
	before := []api.Reply{{Kind: api.SCreate}, {}, down, {E: api.ErrDown}, {}}
	for i, c := range []struct {
		after []api.Reply
		want  api.Reply // what the model replies to the select behind the opening
	}{
		{[]api.Reply{rows(1), one}, rows(1)}, {[]api.Reply{rows(), one}, rows()}, {[]api.Reply{rows(1), {}}, rows()}, {[]api.Reply{rows(2), one}, rows()}, {[]api.Reply{rows(1)}, rows(1)},
	} {
		seen := append(append([]api.Reply{}, before...), c.after...)
		got := Run(l, seen)
		if !reflect.DeepEqual(got[5], c.want) || len(got) != len(seen) || got[4].E != api.OK {
			t.Errorf("%d: %s", i, lines(got))
		}
	}
	// A statement that would have been rejected has no alternative; nor has one that came before the last opening.
	rejected := acts(t, "0: create table t (a int)", "power 3", "0: insert into t values ('x')", "open", "0: select * from t", "power 1", "0: begin", "open", "0: select * from t")
	seen := []api.Reply{{Kind: api.SCreate}, {}, down, {}, rows(1), {}, {Kind: api.SBegin}, {}, rows(1)}
	if got := Run(rejected, seen); !reflect.DeepEqual(got[4], rows()) || !reflect.DeepEqual(got[8], rows()) {
		t.Errorf("%s", lines(got))
	}
	// Several openings: what comes later tells what happened before.
	many := acts(t, "0: create table t (a int)", "power 3", "0: insert into t values (1)", "open", "power 4", "0: insert into t values (2)", "open", "0: select * from t order by 1")
	for i, want := range []api.Reply{rows(), rows(1), rows(2), rows(1, 2)} {
		want.Cols = []api.Col{{Table: "t", Name: "a", Type: api.VInt}}
		seen := []api.Reply{{Kind: api.SCreate}, {}, down, {}, {}, down, {}, want}
		if got := Run(many, seen); !reflect.DeepEqual(got, seen) {
			t.Errorf("%d: %s", i, lines(got))
		}
	}
	// A commit.
	commit := acts(t, "0: create table t (a int)", "0: begin", "0: insert into t values (5)", "power 3", "0: commit", "open", "0: commit", "0: select * from t")
	for i, want := range []api.Reply{rows(), rows(5)} {
		seen := []api.Reply{{Kind: api.SCreate}, {Kind: api.SBegin}, one, {}, {Kind: api.SCommit, E: api.ErrDown}, {}, {Kind: api.SCommit, E: api.ErrState}, want}
		if got := Run(commit, seen); !reflect.DeepEqual(got, seen) {
			t.Errorf("%d: %s", i, lines(got))
		}
	}
}

func show(db []api.Data) string {
	var l []string
	for _, d := range db {
		s := d.Table + ":"
		for _, r := range d.Rows {
			s += " "
			for i, v := range r {
				s += strings.Repeat(",", min(i, 1)) + value.Text(v)
			}
		}
		l = append(l, s)
	}
	return strings.Join(l, "; ")
}

func TestP59_3(t *testing.T) {
	l := acts(t, "0: create table u (x int)", "0: create table t (a int, b text)", "0: insert into t values (2, 'x'), (1, null)", "1: begin", "1: insert into u values (7)", "1: commit", "0: update t set a = 9 where a = 2", "power 2", "0: delete from t", "0: select 1", "open", "0: select count(*) from t", "0: drop table u", "0: vacuum")
	count := func(n int) api.Reply {
		return api.Reply{Kind: api.SQuery, N: 1, Cols: []api.Col{{Name: "count", Type: api.VInt}}, Rows: []api.Row{{value.Num(n)}}}
	}
	for _, gone := range []bool{false, true} {
		seen := make([]api.Reply, len(l))
		seen[8] = api.Reply{Kind: api.SDelete, E: api.ErrDown}
		seen[9].E = api.ErrDown
		seen[11] = count(2)
		seen[12].Kind = api.SDrop
		seen[13] = api.Reply{Kind: api.SVacuum, N: 1}
		after := "t: 9,'x' 1,null"
		if gone {
			seen[11], seen[13].N, after = count(0), 3, "t:"
		}
		want := []string{"u:", "u:; t:", "u:; t: 2,'x' 1,null", "u:; t: 2,'x' 1,null", "u:; t: 2,'x' 1,null", "u: 7; t: 2,'x' 1,null", "u: 7; t: 9,'x' 1,null", "u: 7; t: 9,'x' 1,null", "u: 7; t: 9,'x' 1,null", "u: 7; t: 9,'x' 1,null", "u: 7; " + after, "u: 7; " + after, after, after}
		got := States(l, seen)
		for i := range want {
			if i >= len(got) || show(got[i]) != want[i] {
				t.Fatalf("%v: %d: %s, want %s", gone, i, show(got[i]), want[i])
			}
		}
		if len(States(l, seen[:3])) != 3 || len(States(l[:2], seen)) != 2 || len(States(nil, nil)) != 0 {
			t.Error("as many states as acts and replies")
		}
	}
}

// random makes a random script; without power, if there is to be none.
func random(r *rand.Rand, n int, power bool) []string {
	one := func(l ...string) string { return l[r.Intn(len(l))] }
	l := []string{"0: create table t (a int, b text, unique (a))", "0: create table u (x int, foreign key (x) references t (a))"}
	for range n {
		k := fmt.Sprint(r.Intn(7))
		who := fmt.Sprint(r.Intn(4))
		s := who + ": " + one("insert into t values ("+k+", 'x')", "insert into t values ("+k+", 'x'), ("+k+" + 20, 'yyyyyyyyyyyyyyyyyyyyyyyyyyyyyyyyyyyyy')", "insert into u values ("+k+"), (null)", "update t set b = b || 'y' where a < "+k, "update t set a = a + 1 where a > "+k, "delete from t where a = "+k,
			"delete from u where x = "+k, "begin", "commit", "rollback", "commit", "select * from t", "select t.a, count(x) from t left join u on x = a group by a order by 1", "select * from u where x in (select a from t)", "vacuum", "analyze", "checkpoint", "insert into t select a + 10, b from t where a < "+k,
			"create index i on t (b, a)", "drop index i", "create table v (y int)", "drop table v", "insert into v values ("+k+")", "select y from v", "explain select * from t where a = "+k, "select * from t where a = "+k)
		if r.Intn(8) == 0 {
			s = one("checkpoint", "flush "+k, "flush 1"+k)
		}
		if power && r.Intn(6) == 0 {
			s = one("power "+fmt.Sprint(r.Intn(60)), "open", "open")
		}
		l = append(l, s)
	}
	if power {
		l = append(l, "open", "0: select * from t", "0: select * from u")
	}
	return l
}

func TestP59_4(t *testing.T) {
	r := rand.New(rand.NewSource(59))
	for range 30 {
		l := acts(t, random(r, 40, false)...)
		seen := agree(t, l)
		blank := make([]api.Reply, len(seen))
		for i, x := range seen {
			blank[i] = api.Reply{E: api.ErrDown, N: 7}
			if x.E == api.ErrFull || x.E == api.ErrLong {
				blank[i].E = x.E
			}
			if l[i].Kind == api.AFlush && x.E == api.ErrArg {
				blank[i].E = x.E
			}
		}
		got := Run(l, blank)
		for i := range got {
			if got[i].Kind == api.SExplain {
				got[i].Text = seen[i].Text
			}
		}
		if lines(got) != lines(seen) {
			t.Fatal("the replies depend on what was observed")
		}
	}
	for range 60 {
		agree(t, acts(t, random(r, 40, true)...))
	}
}
