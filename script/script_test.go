package script

import (
	"fmt"
	"math"
	"math/rand"
	"reflect"
	"strings"
	"testing"

	"tabellion/api"
	"tabellion/value"
)

func TestP58_1(t *testing.T) {
	for _, c := range []struct {
		a    api.Act
		want string
		err  api.Errno
	}{
		{api.Act{Kind: api.AText, Who: 3, Text: "begin"}, "3: begin\n", 0}, {api.Act{Kind: api.AText}, "0: \n", 0}, {api.Act{Kind: api.AText, Text: ": \xff power 5"}, "0: : \xff power 5\n", 0}, {api.Act{Kind: api.AText, Who: 4}, "", api.ErrArg}, {api.Act{Kind: api.AText, Who: -1}, "", api.ErrArg}, {api.Act{Kind: api.AText, Text: "a\nb"}, "", api.ErrArg}, {api.Act{Kind: api.AText, N: 1}, "", api.ErrArg},
		{api.Act{Kind: api.APower, N: -1}, "power -1\n", 0}, {api.Act{Kind: api.APower, N: 65536}, "power 65536\n", 0}, {api.Act{Kind: api.APower, N: 65537}, "", api.ErrArg}, {api.Act{Kind: api.APower, N: -2}, "", api.ErrArg}, {api.Act{Kind: api.APower, Who: 1}, "", api.ErrArg}, {api.Act{Kind: api.APower, Text: "x"}, "", api.ErrArg},
		{api.Act{Kind: api.AOpen}, "open\n", 0}, {api.Act{Kind: api.AOpen, N: 1}, "", api.ErrArg}, {api.Act{Kind: api.AOpen, Who: 1}, "", api.ErrArg}, {api.Act{Kind: api.AOpen, Text: "x"}, "", api.ErrArg}, {api.Act{Kind: api.ACheck}, "checkpoint\n", 0}, {api.Act{Kind: api.ACheck, N: 1}, "", api.ErrArg}, {api.Act{Kind: api.ACheck, Text: "x"}, "", api.ErrArg},
		{api.Act{Kind: api.AFlush}, "flush 0\n", 0}, {api.Act{Kind: api.AFlush, N: 2000}, "flush 2000\n", 0}, {api.Act{Kind: api.AFlush, N: 2001}, "", api.ErrArg}, {api.Act{Kind: api.AFlush, N: -1}, "", api.ErrArg}, {api.Act{Kind: api.AFlush, Who: 2}, "", api.ErrArg}, {api.Act{}, "", api.ErrArg}, {api.Act{Kind: 6}, "", api.ErrArg},
	} {
		if got, err := Print([]api.Act{c.a}); got != c.want || err != c.err {
			t.Errorf("%v: %q %d", c.a, got, err)
		}
		if got, err := Print([]api.Act{{Kind: api.AOpen}, c.a, {Kind: api.AOpen}}); c.err == api.OK && got != "open\n"+c.want+"open\n" || err != c.err {
			t.Errorf("%v: %q %d", c.a, got, err)
		}
	}
	if s, err := Print(nil); s != "" || err != api.OK {
		t.Error(s, err)
	}
}

func TestP58_2(t *testing.T) {
	l, n, err := Parse("0: begin\npower 5\nopen\n")
	if want := []api.Act{{Kind: api.AText, Text: "begin"}, {Kind: api.APower, N: 5}, {Kind: api.AOpen}}; !reflect.DeepEqual(l, want) || n != 0 || err != api.OK {
		t.Error(l, n, err)
	}
	for _, c := range []struct {
		s    string
		line int
		err  api.Errno
	}{
		{"", 0, 0}, {"open", 1, api.ErrShort}, {"x", 1, api.ErrShort}, {"open\nopen\n0: ", 3, api.ErrShort}, {"\n", 1, api.ErrForm}, {"open\n\n", 2, api.ErrForm}, {"open \n", 1, api.ErrForm}, {"Open\n", 1, api.ErrForm}, {"x\nopen", 1, api.ErrForm},
		{"power\n", 1, api.ErrForm}, {"power \n", 1, api.ErrForm}, {"power x\n", 1, api.ErrForm}, {"power 05\n", 1, api.ErrForm}, {"power 5 \n", 1, api.ErrForm}, {"power  5\n", 1, api.ErrForm}, {"power 65537\n", 1, api.ErrArg}, {"power -2\n", 1, api.ErrArg}, {"power 99999999999999999999\n", 1, api.ErrForm}, {"power: x\n", 1, api.ErrForm},
		{"flush 2000\nflush 2001\n", 2, api.ErrArg}, {"flush -1\n", 1, api.ErrArg}, {"flush +1\n", 1, api.ErrForm}, {"flush 1: x\n", 1, api.ErrForm}, {"checkpoint\ncheckpoint x\n", 2, api.ErrForm},
		{"0:begin\n", 1, api.ErrForm}, {"0 : begin\n", 1, api.ErrForm}, {"00: begin\n", 1, api.ErrForm}, {" 0: begin\n", 1, api.ErrForm}, {": begin\n", 1, api.ErrForm}, {"0:\n", 1, api.ErrForm}, {"0\n", 1, api.ErrForm}, {"4: x\n", 1, api.ErrArg}, {"-1: x\n", 1, api.ErrArg}, {"x: 0: y\n", 1, api.ErrForm}, {"5: x\nz\n", 1, api.ErrArg}, {"3: \n", 0, 0}, {"0: a: b\r\n", 0, 0},
	} {
		l, line, err := Parse(c.s)
		if line != c.line || err != c.err || err != api.OK && len(l) != 0 {
			t.Errorf("%q: line %d, %d", c.s, line, err)
		}
	}
	if l, _, _ := Parse("2:  a: b\r\n"); len(l) != 1 || l[0] != (api.Act{Kind: api.AText, Who: 2, Text: " a: b\r"}) {
		t.Error(l)
	}
}

var size = api.Size{Log: 3000, Pages: 60, Frames: 8}

// play runs a script and returns the lines of its replies.
func play(t *testing.T, s string) string {
	t.Helper()
	l, line, err := Parse(s)
	if err != api.OK {
		t.Fatal(line, err)
	}
	var out []string
	for _, r := range Run(size, l) {
		out = append(out, Line(r)...)
	}
	return strings.Join(out, "\n")
}

func TestP58_3(t *testing.T) {
	if got := Run(api.Size{}, []api.Act{{Kind: api.AOpen}}); !reflect.DeepEqual(got, []api.Reply{{E: api.ErrArg}}) {
		t.Error(got)
	}
	if got := Run(size, nil); len(got) != 0 {
		t.Error(got)
	}
	got := play(t, `0: create table t (a int)
0: insert into t values (1), (null)
1: begin
1: insert into t values (2)
2: select a from t
1: select t.* from t
checkpoint
flush 2
flush 60
open
1: commit
0: select * from t where a = 1
0: select
power 0
0: insert into t values (3)
0: select 1
checkpoint
flush 2
power -1
0: select 1
open
0: select count(*) as n, 'x' from t
`)
	want := `reply 1 0 0
reply 4 0 2
reply 8 0 0
reply 4 0 1
reply 7 0 2
cols a
row null
row 1
reply 7 0 3
cols t.a
row null
row 1
row 2
reply 0 0 0
reply 0 0 0
reply 0 1 0
reply 0 0 0
reply 9 17 0
reply 7 0 1
cols t.a
row 1
reply 0 3 6
reply 0 0 0
reply 4 20 0
reply 0 20 0
reply 0 20 0
reply 0 20 0
reply 0 0 0
reply 0 20 0
reply 0 0 0
reply 7 0 1
cols n c2
row 2 'x'`
	if got != want {
		t.Errorf("got\n%s", got)
	}
	odd := []api.Act{{Kind: api.AText, Who: 4, Text: "begin"}, {Kind: api.AText, Who: -1}, {}, {Kind: 6}, {Kind: api.AFlush, N: -1}, {Kind: api.APower, N: math.MinInt}, {Kind: api.AText, Text: "select 1", N: 7}}
	var errs []api.Errno
	for _, r := range Run(size, odd) {
		errs = append(errs, r.E)
	}
	if fmt.Sprint(errs) != "[1 1 1 1 1 0 0]" {
		t.Error(errs)
	}
	// An engine that cannot be opened.
	tiny := api.Size{Log: 40, Pages: 4, Frames: 4}
	full := make([]api.Act, 60)
	for i := range full {
		full[i] = api.Act{Kind: []int{api.AOpen, api.AText, api.ACheck, api.AFlush}[i%4], Text: []string{"", "create table t (a int)", "", ""}[i%4]}
	}
	if got := Run(tiny, full); len(got) != 60 || got[59].E == api.OK {
		t.Error(len(got), got[59])
	}
}

func TestP58_4(t *testing.T) {
	for i, c := range []struct {
		r    api.Reply
		want string
	}{
		{api.Reply{}, "reply 0 0 0"}, {api.Reply{Kind: 7, N: 1, Cols: []api.Col{{Table: "t", Name: "a"}}, Rows: []api.Row{{value.Num(3)}}}, "reply 7 0 1;cols t.a;row 3"},
		{api.Reply{Kind: 7, E: -5, N: -1, Cols: []api.Col{{Name: "a"}, {Table: "t"}}, Rows: []api.Row{nil, {{}, value.Str("it's")}}}, "reply 7 -5 -1;cols a t.;row;row null 'it''s'"}, {api.Reply{Kind: 11, Text: []string{"a", "", "  b"}}, "reply 11 0 0;text a;text ;text   b"},
	} {
		if got := strings.Join(Line(c.r), ";"); got != c.want {
			t.Errorf("%d: %s", i, got)
		}
	}
}

func TestP58_5(t *testing.T) {
	r := rand.New(rand.NewSource(58))
	texts := []string{"create table t (a int, unique (a))", "insert into t values (1)", "insert into t values (2), (3)", "select * from t", "begin", "commit", "delete from t where a = 2", "update t set a = a + 10", "", "x: y", "explain select 1"}
	for range 60 {
		var l []api.Act
		for range 1 + r.Intn(12) {
			l = append(l, []api.Act{
				{Kind: api.AText, Who: r.Intn(4), Text: texts[r.Intn(len(texts))]}, {Kind: api.AText, Who: r.Intn(2), Text: texts[r.Intn(4)]}, {Kind: api.APower, N: r.Intn(30) - 1}, {Kind: api.AOpen}, {Kind: api.AFlush, N: r.Intn(9)}, {Kind: api.ACheck},
			}[r.Intn(6)])
		}
		s, err := Print(l)
		back, n, err2 := Parse(s)
		if err != api.OK || err2 != api.OK || n != 0 || !reflect.DeepEqual(back, l) {
			t.Fatalf("%q: %v", s, back)
		}
		all := Run(size, l)
		k := r.Intn(len(l) + 1)
		if some := Run(size, l[:k]); fmt.Sprint(some) != fmt.Sprint(all[:k]) || len(all) != len(l) {
			t.Fatalf("%q: the first %d replies", s, k)
		}
	}
}
