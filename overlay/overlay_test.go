package overlay

import (
	"fmt"
	"math"
	"math/rand"
	"slices"
	"testing"

	"tabellion/api"
	"tabellion/value"
)

func row(n int) api.Row { return api.Row{value.Num(n)} }

func write(kind, at int, data ...int) api.Write {
	w := api.Write{Table: "t", Kind: kind, Row: at}
	for _, n := range data {
		w.Data = append(w.Data, value.Num(n))
	}
	return w
}

func held(at, n int) api.Held {
	return api.Held{V: api.Version{Row: at, From: 1, Data: row(n)}, Rid: api.Rid{Page: at, Slot: n}}
}

func same(a, b any) bool { return fmt.Sprint(a) == fmt.Sprint(b) }

func TestP51_1(t *testing.T) {
	insert, update, remove := write(api.WInsert, -1, 1), write(api.WUpdate, 5, 2), write(api.WDelete, 6)
	other := api.Write{Table: "u", Kind: api.WUpdate, Row: 7, Data: row(7)}
	l := []api.Write{insert, update, other, remove}
	with := func(at int, w api.Write) []api.Write {
		out := slices.Clone(l)
		out[at] = w
		return out
	}
	for i, c := range []struct {
		w    api.Write
		want []api.Write
		err  api.Errno
	}{
		{write(api.WInsert, -2, 9), append(slices.Clone(l), write(api.WInsert, -2, 9)), 0}, {write(api.WInsert, 0, 9), nil, api.ErrArg}, {write(api.WInsert, 5, 9), nil, api.ErrArg}, {write(api.WInsert, -1, 9), nil, api.ErrTwice}, {write(api.WInsert, math.MinInt), append(slices.Clone(l), write(api.WInsert, math.MinInt)), 0},
		{write(api.WUpdate, -2, 9), nil, api.ErrNone}, {write(api.WUpdate, 7, 9), append(slices.Clone(l), write(api.WUpdate, 7, 9)), 0}, {write(api.WUpdate, 0, 9), append(slices.Clone(l), write(api.WUpdate, 0, 9)), 0}, {write(api.WUpdate, -1, 9), with(0, write(api.WInsert, -1, 9)), 0}, {write(api.WUpdate, 5, 9), with(1, write(api.WUpdate, 5, 9)), 0}, {write(api.WUpdate, 6, 9), nil, api.ErrNone},
		{write(api.WDelete, -2, 9), nil, api.ErrNone}, {write(api.WDelete, 7, 9), append(slices.Clone(l), write(api.WDelete, 7)), 0}, {write(api.WDelete, -1, 9), l[1:], 0}, {write(api.WDelete, 5, 9), with(1, write(api.WDelete, 5)), 0}, {write(api.WDelete, 6, 9), nil, api.ErrNone},
		{write(0, -1, 9), nil, api.ErrArg}, {write(4, 5, 9), nil, api.ErrArg}, {write(-1, 5, 9), nil, api.ErrArg},
	} {
		if got, err := Add(l, c.w); !same(got, c.want) || err != c.err {
			t.Errorf("%d: %v %d", i, got, err)
		}
	}
	twice := []api.Write{update, write(api.WDelete, 5)}
	if got, err := Add(twice, write(api.WUpdate, 5, 3)); err != api.OK || !same(got, []api.Write{write(api.WUpdate, 5, 3), twice[1]}) {
		t.Error("the first one counts", got, err)
	}
}

func TestP51_2(t *testing.T) {
	base := []api.Held{held(2, 20), held(1, 10), held(3, 30), held(2, 21)}
	for i, c := range []struct {
		l    []api.Write
		want []api.Held
	}{
		{nil, []api.Held{held(1, 10), held(2, 20), held(2, 21), held(3, 30)}},
		{[]api.Write{write(api.WUpdate, 2, 99), write(api.WInsert, -1, 7), write(api.WDelete, 1)}, []api.Held{
			{V: api.Version{Row: 2, From: 1, Data: row(99)}, Rid: api.Rid{Page: 2, Slot: 20}}, {V: api.Version{Row: 2, From: 1, Data: row(99)}, Rid: api.Rid{Page: 2, Slot: 21}}, held(3, 30), {V: api.Version{Row: -1, Data: row(7)}},
		}},
		{[]api.Write{write(api.WInsert, -3, 3), write(api.WInsert, -1, 1), write(api.WInsert, -3, 4), write(api.WInsert, -2, 2)}, []api.Held{
			held(1, 10), held(2, 20), held(2, 21), held(3, 30), {V: api.Version{Row: -1, Data: row(1)}}, {V: api.Version{Row: -2, Data: row(2)}}, {V: api.Version{Row: -3, Data: row(3)}}, {V: api.Version{Row: -3, Data: row(4)}},
		}},
		{[]api.Write{{Table: "u", Kind: api.WDelete, Row: 1}, {Table: "u", Kind: api.WInsert, Row: -1, Data: row(5)}, write(api.WInsert, 3, 5), write(api.WDelete, 3), write(9, 2)}, []api.Held{held(1, 10), held(2, 20), held(2, 21), held(3, 30), {V: api.Version{Row: 3, Data: row(5)}}}},
		{[]api.Write{write(api.WUpdate, 77, 5), write(api.WDelete, 3), write(api.WUpdate, 3, 6)}, []api.Held{held(1, 10), held(2, 20), held(2, 21)}},
	} {
		if got := Rows(base, c.l, "t"); !same(got, c.want) {
			t.Errorf("%d: %v", i, got)
		}
		var rows []api.Row
		for _, h := range c.want {
			rows = append(rows, h.V.Data)
		}
		if got := Data(base, c.l, "t"); !same(got, api.Data{Table: "t", Rows: rows}) {
			t.Errorf("%d: %v", i, got)
		}
	}
	if got := Data(nil, nil, "x"); got.Table != "x" || len(got.Rows) != 0 {
		t.Error(got)
	}
}

func TestP51_3(t *testing.T) {
	r := rand.New(rand.NewSource(51))
	for range 2000 {
		base := []api.Held{held(1, 10), held(2, 20), held(3, 30)}
		model := map[int]int{1: 10, 2: 20, 3: 30}
		var l []api.Write
		for range r.Intn(12) {
			w := write(1+r.Intn(3), r.Intn(7)-3, r.Intn(100))
			next, err := Add(l, w)
			_, exists := model[w.Row]
			// A row that is not there can be written, too, if it is not the transaction's own: that is found out later.
			if err != api.OK {
				continue
			}
			l = next
			switch {
			case w.Kind == api.WInsert:
				model[w.Row] = w.Data[0].N
			case w.Kind == api.WDelete:
				delete(model, w.Row)
			case exists:
				model[w.Row] = w.Data[0].N
			}
			if other := Rows(base, l, "u"); !same(other, base) {
				t.Fatal("writes of another table are seen")
			}
		}
		got := map[int]int{}
		for _, h := range Rows(base, l, "t") {
			got[h.V.Row] = h.V.Data[0].N
		}
		if !same(got, model) {
			t.Fatal(l, got, model)
		}
	}
}
