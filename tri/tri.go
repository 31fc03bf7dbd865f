// Package tri implements SQL's three-valued logic (layer 1).
package tri

import "tabellion/api"

// Is reports whether a is one of the three truth values.
func Is(a int) bool { return a == api.No || a == api.Maybe || a == api.Yes }

// Of returns the truth value of a bool.
func Of(b bool) int {
	if b {
		return api.Yes
	}
	return api.No
}

// sure returns a, or Maybe if a is not a truth value.
func sure(a int) int {
	if Is(a) {
		return a
	}
	return api.Maybe
}

// Not negates a.
func Not(a int) int { return api.Yes - sure(a) }

// And returns the smaller of a and b.
func And(a, b int) int { return min(sure(a), sure(b)) }

// Or returns the greater of a and b.
func Or(a, b int) int { return max(sure(a), sure(b)) }

// All returns the conjunction of a list: Yes if it is empty.
func All(l []int) int {
	all := api.Yes
	for _, a := range l {
		all = And(all, a)
	}
	return all
}

// Any returns the disjunction of a list: No if it is empty.
func Any(l []int) int {
	one := api.No
	for _, a := range l {
		one = Or(one, a)
	}
	return one
}

// Value returns the SQL value of a truth value: null for Maybe.
func Value(a int) api.Value {
	switch sure(a) {
	case api.Yes:
		return api.Value{Kind: api.VBool, N: 1}
	case api.No:
		return api.Value{Kind: api.VBool}
	}
	return api.Value{}
}

// From returns the truth value of an SQL value: Maybe if it is not a bool.
func From(v api.Value) int {
	if v.Kind != api.VBool {
		return api.Maybe
	}
	return Of(v.N != 0)
}
