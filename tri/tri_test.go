package tri

import (
	"math"
	"testing"

	"tabellion/api"
)

// odd are truth values and ints that are none.
var odd = []int{0, 1, 2, -1, 3, 9, math.MinInt, math.MaxInt}

func norm(a int) int {
	if a < 0 || a > 2 {
		return 1
	}
	return a
}

func TestP1_1(t *testing.T) {
	for _, a := range odd {
		if got, want := Is(a), a == 0 || a == 1 || a == 2; got != want {
			t.Errorf("Is(%d) = %v", a, got)
		}
		if got := Not(a); got != 2-norm(a) {
			t.Errorf("Not(%d) = %d", a, got)
		}
		for _, b := range odd {
			if got := And(a, b); got != min(norm(a), norm(b)) {
				t.Errorf("And(%d, %d) = %d", a, b, got)
			}
			if got := Or(a, b); got != max(norm(a), norm(b)) {
				t.Errorf("Or(%d, %d) = %d", a, b, got)
			}
		}
	}
	if Of(true) != api.Yes || Of(false) != api.No {
		t.Error("Of")
	}
}

func TestP1_2(t *testing.T) {
	for _, c := range []struct {
		l        []int
		all, any int
	}{
		{nil, 2, 0}, {[]int{}, 2, 0}, {[]int{2, 2}, 2, 2}, {[]int{2, 1}, 1, 2}, {[]int{1, 0, 2}, 0, 2},
		{[]int{0, 1}, 0, 1}, {[]int{0, 0}, 0, 0}, {[]int{7}, 1, 1}, {[]int{2, -4}, 1, 2}, {[]int{0, 5}, 0, 1},
	} {
		if All(c.l) != c.all || Any(c.l) != c.any {
			t.Errorf("%v: %d %d, want %d %d", c.l, All(c.l), Any(c.l), c.all, c.any)
		}
	}
}

func TestP1_3(t *testing.T) {
	values := map[int]api.Value{0: {Kind: api.VBool}, 1: {}, 2: {Kind: api.VBool, N: 1}, -3: {}, 8: {}}
	for a, want := range values {
		if got := Value(a); got != want {
			t.Errorf("Value(%d) = %v", a, got)
		}
	}
	truths := map[api.Value]int{
		{}:                               1,
		{Kind: api.VBool}:                0,
		{Kind: api.VBool, N: 1}:          2,
		{Kind: api.VBool, N: -7, S: "x"}: 2,
		{Kind: api.VInt, N: 1}:           1,
		{Kind: api.VInt}:                 1,
		{Kind: api.VText, S: "true"}:     1,
		{Kind: 17, N: 1}:                 1,
		{Kind: -1}:                       1,
	}
	for v, want := range truths {
		if got := From(v); got != want {
			t.Errorf("From(%v) = %d, want %d", v, got, want)
		}
	}
}

func TestP1_4(t *testing.T) {
	for _, a := range odd {
		for _, b := range odd {
			if Not(And(a, b)) != Or(Not(a), Not(b)) || Not(Or(a, b)) != And(Not(a), Not(b)) {
				t.Errorf("De Morgan of %d, %d", a, b)
			}
			if And(a, b) != And(b, a) || Or(a, b) != Or(b, a) {
				t.Errorf("order of %d, %d", a, b)
			}
			for _, c := range odd {
				if And(a, And(b, c)) != And(And(a, b), c) || Or(a, Or(b, c)) != Or(Or(a, b), c) {
					t.Errorf("grouping of %d, %d, %d", a, b, c)
				}
				if And(a, Or(b, c)) != Or(And(a, b), And(a, c)) || Or(a, And(b, c)) != And(Or(a, b), Or(a, c)) {
					t.Errorf("distribution over %d, %d, %d", a, b, c)
				}
			}
		}
	}
	for a := 0; a <= 2; a++ {
		if Not(Not(a)) != a || And(a, a) != a || Or(a, a) != a || From(Value(a)) != a {
			t.Errorf("identities of %d", a)
		}
	}
}
