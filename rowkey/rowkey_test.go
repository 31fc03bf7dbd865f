package rowkey

import (
	"testing"

	"tabellion/api"
	"tabellion/value"
)

func TestOf(t *testing.T) {
	l := []api.Value{{}, {N: 1}, {S: "0"}, value.Num(0), value.Num(1), value.Num(-1), value.Str(""), value.Str("3 0 0 "), value.Str("0"), value.Bool(false), {Kind: 30}}
	rows := []api.Row{nil}
	for _, a := range l {
		rows = append(rows, api.Row{a})
		for _, b := range l {
			rows = append(rows, api.Row{a, b})
		}
	}
	for _, a := range rows {
		for _, b := range rows {
			if (Of(a) == Of(b)) != (value.Orders(a, b) == 0) {
				t.Errorf("%v and %v", a, b)
			}
		}
	}
}
