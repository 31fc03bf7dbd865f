package num

import (
	"math"
	"math/big"
	"strconv"
	"testing"

	"tabellion/api"
)

const most = api.MaxNum

var some = []int{
	0, 1, -1, 2, -2, 3, 7, -7, 10, 31622776, 31622777, -31622777, 10000000, 100000000, 100000001,
	most / 2, most/2 + 1, most - 1, most, -most + 1, -most, most + 1, -most - 1, math.MaxInt, math.MinInt,
}

func TestP2_1(t *testing.T) {
	for _, n := range some {
		if got := In(n); got != (n >= -1000000000000000 && n <= 1000000000000000) {
			t.Errorf("In(%d) = %v", n, got)
		}
	}
}

// exact does an operation with big numbers.
func exact(op string, a, b int) (int, bool) {
	if !In(a) || !In(b) {
		return 0, false
	}
	x, y, z := big.NewInt(int64(a)), big.NewInt(int64(b)), new(big.Int)
	if b == 0 && (op == "/" || op == "%") {
		return 0, false
	}
	switch op {
	case "+":
		z.Add(x, y)
	case "-":
		z.Sub(x, y)
	case "*":
		z.Mul(x, y)
	case "/":
		z.Quo(x, y)
	case "%":
		z.Rem(x, y)
	}
	if z.CmpAbs(big.NewInt(most)) > 0 {
		return 0, false
	}
	return int(z.Int64()), true
}

func TestP2_2(t *testing.T) {
	for op, f := range map[string]func(a, b int) (int, bool){"+": Add, "-": Sub, "*": Mul, "/": Div, "%": Mod} {
		for _, a := range some {
			for _, b := range some {
				got, ok := f(a, b)
				want, wantOk := exact(op, a, b)
				if got != want || ok != wantOk {
					t.Errorf("%d %s %d = %d %v, want %d %v", a, op, b, got, ok, want, wantOk)
				}
			}
		}
	}
	for _, a := range some {
		got, ok := Neg(a)
		want, wantOk := exact("-", 0, a)
		if got != want || ok != wantOk {
			t.Errorf("Neg(%d) = %d %v", a, got, ok)
		}
	}
	if n, ok := Mul(10000000, 100000000); n != most || !ok {
		t.Error("the greatest product")
	}
	if q, _ := Div(-7, 2); q != -3 {
		t.Error("Div truncates toward 0")
	}
	if m, _ := Mod(-7, 2); m != -1 {
		t.Error("Mod has the sign of a")
	}
}

func TestP2_3(t *testing.T) {
	for _, n := range some {
		if got := Text(n); got != strconv.Itoa(n) {
			t.Errorf("Text(%d) = %s", n, got)
		}
	}
	for _, s := range []string{
		"", "-", "+1", "007", "-0", "00", "0x1", "1_000", " 1", "1 ", "1.0", "1e3", "a", "--1", "-01", "1000000000000001",
		"-1000000000000001", "9223372036854775807", "99999999999999999999999999",
	} {
		if n, ok := Parse(s); n != 0 || ok {
			t.Errorf("Parse(%q) = %d %v", s, n, ok)
		}
	}
	for s, want := range map[string]int{"0": 0, "7": 7, "-7": -7, "1000000000000000": most, "-1000000000000000": -most} {
		if n, ok := Parse(s); n != want || !ok {
			t.Errorf("Parse(%q) = %d %v", s, n, ok)
		}
	}
}

func TestP2_4(t *testing.T) {
	for _, a := range some {
		for _, b := range some {
			s, ok := Add(a, b)
			if back, ok2 := Sub(s, b); ok && (back != a || !ok2) {
				t.Errorf("%d + %d - %d = %d", a, b, b, back)
			}
			s2, ok2 := Add(b, a)
			p, ok3 := Mul(a, b)
			p2, ok4 := Mul(b, a)
			if s != s2 || ok != ok2 || p != p2 || ok3 != ok4 {
				t.Errorf("%d and %d do not commute", a, b)
			}
			q, ok5 := Div(a, b)
			m, _ := Mod(a, b)
			if ok5 && (b*q+m != a || size(m) >= size(b)) {
				t.Errorf("%d divided by %d: %d %d", a, b, q, m)
			}
			for _, c := range some {
				threeLaws(t, a, b, c)
			}
		}
	}
}

// chain does f(f(a, b), c), if it exists.
func chain(f, g func(a, b int) (int, bool), a, b, c int) (int, bool) {
	x, ok := f(a, b)
	if !ok {
		return 0, false
	}
	return g(x, c)
}

func threeLaws(t *testing.T, a, b, c int) {
	for _, f := range []func(a, b int) (int, bool){Add, Mul} {
		x, ok := chain(f, f, a, b, c)
		y, ok2 := chain(f, f, b, c, a)
		if ok && ok2 && x != y {
			t.Errorf("%d, %d, %d: not associative", a, b, c)
		}
	}
	left, ok := chain(Add, Mul, a, b, c)
	x, ok2 := Mul(a, c)
	y, ok3 := Mul(b, c)
	if ok && ok2 && ok3 && left != x+y {
		t.Errorf("%d, %d, %d: not distributive", a, b, c)
	}
}

func TestP2_5(t *testing.T) {
	for _, n := range some {
		got, ok := Parse(Text(n))
		if ok != In(n) || ok && got != n {
			t.Errorf("Parse(Text(%d)) = %d %v", n, got, ok)
		}
	}
}
