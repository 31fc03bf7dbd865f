package value

import (
	"fmt"
	"math"
	"strings"
	"testing"

	"tabellion/api"
)

var null = api.Value{}

// ladder is in increasing order, by Kind, then N, then S; some of these values are not valid.
var ladder = []api.Value{
	{Kind: -2}, null, {S: "x"}, {N: 1}, Bool(false), {Kind: api.VBool, N: 0, S: "a"}, Bool(true), {Kind: api.VBool, N: 2},
	Num(math.MinInt), Num(-api.MaxNum - 1), Num(-api.MaxNum), Num(-3), Num(0), Num(1), {Kind: api.VInt, N: 1, S: "a"},
	Num(api.MaxNum), Num(api.MaxNum + 1), Str(""), Str(" "), Str("a"), Str("a "), Str("ab"), Str("b"),
	Str(strings.Repeat("z", 100)), Str(strings.Repeat("z", 101)), Str("\x7f"), Str("\xff"), {Kind: api.VText, N: 1}, {Kind: 4},
}

func TestP3_1(t *testing.T) {
	if Num(-5) != (api.Value{Kind: api.VInt, N: -5}) || Str("x") != (api.Value{Kind: api.VText, S: "x"}) {
		t.Error("Num, Str")
	}
	if Bool(true) != (api.Value{Kind: api.VBool, N: 1}) || Bool(false) != (api.Value{Kind: api.VBool}) {
		t.Error("Bool")
	}
	wrong := []api.Value{
		{Kind: -2}, {S: "x"}, {N: 1}, {Kind: api.VBool, S: "a"}, {Kind: api.VBool, N: 2}, {Kind: api.VBool, N: -1},
		Num(math.MinInt), Num(-api.MaxNum - 1), {Kind: api.VInt, N: 1, S: "a"}, Num(api.MaxNum + 1), Str("\x7f"), Str("\x1f"),
		Str("\n"), Str(strings.Repeat("z", 101)), Str("\xff"), {Kind: api.VText, N: 1}, {Kind: 4},
	}
	right := []api.Value{
		null, Bool(false), Bool(true), Num(0), Num(api.MaxNum), Num(-api.MaxNum), Str(""), Str(" ~"), Str(strings.Repeat("z", 100)),
	}
	for _, v := range wrong {
		if Right(v) || Rights(api.Row{null, v}) {
			t.Errorf("%v is accepted", v)
		}
	}
	for _, v := range right {
		if !Right(v) {
			t.Errorf("%v is not accepted", v)
		}
	}
	if !Rights(nil) || !Rights(api.Row{}) || !Rights(right) {
		t.Error("Rights")
	}
}

func TestP3_2(t *testing.T) {
	for i, a := range ladder {
		for j, b := range ladder {
			c, ok := Compare(a, b)
			comparable := a.Kind == b.Kind && a.Kind >= api.VBool && a.Kind <= api.VText
			want := 0
			if comparable && a.Kind == api.VText {
				want = strings.Compare(a.S, b.S)
			} else if comparable && a.N != b.N {
				want = sign(i - j)
			}
			if c != want || ok != comparable {
				t.Errorf("Compare(%v, %v) = %d %v", a, b, c, ok)
			}
		}
	}
	if c, ok := Compare(null, null); c != 0 || ok {
		t.Error("nulls are never comparable")
	}
}

func sign(n int) int {
	switch {
	case n < 0:
		return -1
	case n > 0:
		return 1
	}
	return 0
}

func TestP3_3(t *testing.T) {
	for i, a := range ladder {
		for j, b := range ladder {
			if got := Order(a, b); got != sign(i-j) {
				t.Errorf("Order(%v, %v) = %d", a, b, got)
			}
		}
	}
	rows := []api.Row{nil, {null}, {null, null}, {null, Num(1)}, {Num(1)}, {Num(1), Str("a")}, {Num(1), Str("b")}, {Num(2)}}
	for i, a := range rows {
		for j, b := range rows {
			if got := Orders(a, b); got != sign(i-j) {
				t.Errorf("Orders(%v, %v) = %d", a, b, got)
			}
		}
	}
	if Orders(nil, api.Row{}) != 0 {
		t.Error("empty rows")
	}
}

func TestP3_4(t *testing.T) {
	l := []api.Row{{Num(2)}, {Num(1), Num(5)}, {Num(1)}}
	if got := fmt.Sprint(Sorted(l)); got != fmt.Sprint([]api.Row{{Num(1)}, {Num(1), Num(5)}, {Num(2)}}) {
		t.Error(got)
	}
	got := Sorted(l)
	got[0][0] = Num(9)
	if l[2][0] != Num(1) || len(Sorted(nil)) != 0 {
		t.Error("Sorted shares memory")
	}
	a, b, c := api.Row{Num(1)}, api.Row{null}, api.Row{Str("x"), null}
	for _, x := range []struct {
		l, m []api.Row
		same bool
	}{
		{nil, []api.Row{}, true}, {nil, []api.Row{nil}, false}, {[]api.Row{a, b, c}, []api.Row{c, a, b}, true},
		{[]api.Row{a, a, b}, []api.Row{a, b, b}, false}, {[]api.Row{a, b}, []api.Row{a, b, b}, false},
		{[]api.Row{b, b}, []api.Row{b, b}, true}, {[]api.Row{a}, []api.Row{b}, false},
	} {
		if Bag(x.l, x.m) != x.same || Bag(x.m, x.l) != x.same {
			t.Errorf("Bag(%v, %v)", x.l, x.m)
		}
	}
}

func TestP3_5(t *testing.T) {
	for v, want := range map[api.Value]string{
		null: "null", {N: 5}: "null", Bool(false): "false", Bool(true): "true", {Kind: api.VBool, N: -4}: "true", Num(-12): "-12",
		Num(math.MinInt): "-9223372036854775808", Str(""): "''", Str("it's"): "'it''s'", Str("''"): "''''''", Str("\n"): "'\n'",
		{Kind: 9, N: 1, S: "x"}: "null", {Kind: -1}: "null",
	} {
		if got := Text(v); got != want {
			t.Errorf("Text(%v) = %s", v, got)
		}
	}
}

func TestP3_6(t *testing.T) {
	texts := map[string]api.Value{}
	for _, v := range ladder {
		if !Right(v) {
			continue
		}
		if w, ok := texts[Text(v)]; ok {
			t.Errorf("%v and %v have the same text", v, w)
		}
		texts[Text(v)] = v
	}
	rows := make([]api.Row, 0, 40)
	for i := range 40 {
		rows = append(rows, api.Row{ladder[i*7%len(ladder)], ladder[i%3]})
	}
	sorted := Sorted(rows)
	turned := append(append([]api.Row{}, rows[17:]...), rows[:17]...)
	if fmt.Sprint(Sorted(turned)) != fmt.Sprint(sorted) || !Bag(sorted, turned) {
		t.Error("Sorted depends on the order")
	}
	for i := 1; i < len(sorted); i++ {
		if Orders(sorted[i-1], sorted[i]) > 0 {
			t.Error("Sorted is not ascending")
		}
	}
}
