package rules

import (
	"tabellion/num"
	"tabellion/tri"
)

// calls lists the functions of all layers that have landed.
func calls() []call {
	return []call{
		{"tri.Is", tri.Is, 0},
		{"tri.Of", tri.Of, 0},
		{"tri.Not", tri.Not, 0},
		{"tri.And", tri.And, 0},
		{"tri.Or", tri.Or, 0},
		{"tri.All", tri.All, 0},
		{"tri.Any", tri.Any, 0},
		{"tri.Value", tri.Value, 0},
		{"tri.From", tri.From, 0},
		{"num.In", num.In, 0},
		{"num.Add", num.Add, zeroes},
		{"num.Sub", num.Sub, zeroes},
		{"num.Mul", num.Mul, zeroes},
		{"num.Div", num.Div, zeroes},
		{"num.Mod", num.Mod, zeroes},
		{"num.Neg", num.Neg, zeroes},
		{"num.Text", num.Text, 0},
		{"num.Parse", num.Parse, zeroes},
	}
}
