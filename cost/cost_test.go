package cost

import (
	"math"
	"math/big"
	"math/bits"
	"math/rand"
	"testing"

	"tabellion/api"
)

// exact is a number that may be greater than an int.
type exact = *big.Int

func bound(n int) exact { return big.NewInt(int64(min(max(n, 0), api.MaxCost))) }

func plus(l ...exact) exact {
	s := new(big.Int)
	for _, x := range l {
		s.Add(s, x)
	}
	return cap(s)
}

func times(n int64, x exact) exact { return new(big.Int).Mul(big.NewInt(n), x) }

func cap(x exact) exact {
	if x.Cmp(big.NewInt(api.MaxCost)) > 0 {
		return big.NewInt(api.MaxCost)
	}
	return x
}

func sorted(n, c int) exact {
	b := bound(n)
	return plus(bound(c), times(int64(bits.Len64(b.Uint64())), b))
}

type function struct {
	name string
	n    int // how many arguments count
	f    func(a [4]int) int
	want func(a [4]int) exact
}

func functions() []function {
	return []function{
		{"Add", 2, func(a [4]int) int { return Add(a[0], a[1]) }, func(a [4]int) exact { return plus(bound(a[0]), bound(a[1])) }},
		{"Mul", 2, func(a [4]int) int { return Mul(a[0], a[1]) }, func(a [4]int) exact { return cap(new(big.Int).Mul(bound(a[0]), bound(a[1]))) }},
		{"Scan", 2, func(a [4]int) int { return Scan(a[0], a[1]) }, func(a [4]int) exact { return plus(times(10, bound(a[0])), bound(a[1])) }},
		{"Seek", 2, func(a [4]int) int { return Seek(a[0], a[1]) }, func(a [4]int) exact { return plus(times(10, bound(a[0])), times(11, bound(a[1]))) }},
		{"Nest", 3, func(a [4]int) int { return Nest(a[0], a[1], a[2]) }, func(a [4]int) exact { return plus(bound(a[1]), new(big.Int).Mul(bound(a[0]), bound(a[2]))) }},
		{"Hash", 4, func(a [4]int) int { return Hash(a[0], a[1], a[2], a[3]) }, func(a [4]int) exact {
			return plus(bound(a[1]), bound(a[3]), bound(a[0]), times(2, bound(a[2])))
		}},
		{"Merge", 4, func(a [4]int) int { return Merge(a[0], a[1], a[2], a[3]) }, func(a [4]int) exact {
			return plus(sorted(a[0], a[1]), sorted(a[2], a[3]), bound(a[0]), bound(a[2]))
		}},
		{"Sort", 2, func(a [4]int) int { return Sort(a[0], a[1]) }, func(a [4]int) exact { return sorted(a[0], a[1]) }},
		{"Each", 2, func(a [4]int) int { return Each(a[0], a[1]) }, func(a [4]int) exact { return plus(bound(a[0]), bound(a[1])) }},
	}
}

func random(r *rand.Rand) int {
	if r.Intn(8) == 0 {
		return []int{math.MinInt, math.MaxInt, -1, 0, api.MaxCost, api.MaxCost + 1, api.MaxCost - 1, 1}[r.Intn(8)]
	}
	return r.Int() >> (15 + r.Intn(48))
}

// TestP25_1to3 covers P25.1, P25.2 and P25.3.
func TestP25_1to3(t *testing.T) {
	for name, c := range map[string]struct{ got, want int }{
		"Scan": {Scan(3, 20), 50}, "Seek": {Seek(2, 4), 64}, "Nest": {Nest(10, 50, 7), 120}, "Hash": {Hash(10, 50, 4, 30), 98}, "Sort": {Sort(5, 50), 65}, "Merge": {Merge(5, 50, 0, 1), 71},
		"Each": {Each(5, 50), 55}, "Add": {Add(2, 3), 5}, "Mul": {Mul(2, 3), 6}, "Sort of none": {Sort(0, 7), 7}, "Sort of one": {Sort(1, 7), 8}, "Mul at the limit": {Mul(1000000, 1000000), api.MaxCost},
		"Mul beyond": {Mul(1000001, 1000000), api.MaxCost}, "negative": {Add(-5, 3), 3}, "great": {Add(math.MaxInt, math.MaxInt), api.MaxCost}, "nothing": {Mul(0, math.MaxInt), 0},
	} {
		if c.got != c.want {
			t.Errorf("%s: %d, want %d", name, c.got, c.want)
		}
	}
	r := rand.New(rand.NewSource(25))
	for range 20000 {
		a := [4]int{random(r), random(r), random(r), random(r)}
		for _, f := range functions() {
			if got := f.f(a); int64(got) != f.want(a).Int64() {
				t.Fatalf("%s(%v) = %d, want %d", f.name, a[:f.n], got, f.want(a))
			}
		}
	}
}

func TestP25_4(t *testing.T) {
	r := rand.New(rand.NewSource(26))
	for range 20000 {
		a := [4]int{random(r), random(r), random(r), random(r)}
		b := a
		i := r.Intn(4)
		b[i] = max(b[i], random(r))
		for _, f := range functions() {
			if f.f(a) > f.f(b) || f.f(a) < 0 || f.f(a) > api.MaxCost {
				t.Fatalf("%s(%v) = %d, %s(%v) = %d", f.name, a, f.f(a), f.name, b, f.f(b))
			}
		}
		if Add(a[0], a[1]) != Add(a[1], a[0]) || Mul(a[0], a[1]) != Mul(a[1], a[0]) {
			t.Fatalf("%v do not commute", a)
		}
	}
}
