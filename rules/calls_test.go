package rules

import "tabellion/tri"

// calls lists the functions of all layers that have landed.
func calls() []call {
	return []call{
		{"tri.Is", tri.Is, 0},
		{"tri.Of", tri.Of, 0},
		{"tri.Not", tri.Not, 0},
		{"tri.And", tri.And, 0},
		{"tri.Or", tri.Or, 0},
		{"tri.All", tri.All, 0},
		{"tri.Any", tri.Any, 0},
		{"tri.Value", tri.Value, 0},
		{"tri.From", tri.From, 0},
	}
}
