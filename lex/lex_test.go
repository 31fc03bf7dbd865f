package lex

import (
	"fmt"
	"math"
	"math/rand"
	"strings"
	"testing"

	"tabellion/api"
)

func tk(kind, at, size, n int, s string) api.Token {
	return api.Token{Kind: kind, At: at, Size: size, N: n, S: s}
}

const long = "abcdefghijklmnopqrst" // 20 bytes

func TestP8_1(t *testing.T) {
	for _, c := range []struct {
		s    string
		at   int
		want api.Token
		err  api.Errno
	}{
		{"", 0, tk(0, 0, 0, 0, ""), 0}, {"  ", 1, tk(0, 2, 0, 0, ""), 0}, {"a", 1, tk(0, 1, 0, 0, ""), 0}, {"-- x", 0, tk(0, 4, 0, 0, ""), 0},
		{"a", 2, api.Token{}, api.ErrArg}, {"a", -1, api.Token{}, api.ErrArg}, {"", math.MaxInt, api.Token{}, api.ErrArg},
		{" \t\r\n-- c\n--\n Ab_9+", 0, tk(2, 13, 4, 0, "ab_9"), 0}, {"select", 1, tk(2, 1, 5, 0, "elect"), 0},
		{"SeLect ", 0, tk(1, 0, 6, 0, "select"), 0}, {`"select"`, 0, tk(2, 0, 8, 0, "select"), 0}, {"_", 0, tk(2, 0, 1, 0, "_"), 0},
		{`""`, 0, tk(0, 0, 0, 0, ""), api.ErrForm}, {` "A"`, 0, tk(0, 1, 0, 0, ""), api.ErrForm}, {`"1a"`, 0, api.Token{}, api.ErrForm},
		{`"a b"`, 0, api.Token{}, api.ErrForm}, {`"é"`, 0, api.Token{}, api.ErrForm}, {`"a`, 0, api.Token{}, api.ErrShort},
		{`"A`, 0, api.Token{}, api.ErrShort}, {`"` + long + `"`, 0, tk(2, 0, 22, 0, long), 0}, {`"` + long + `u"`, 0, api.Token{}, api.ErrLong},
		{`"` + long + `U"`, 0, api.Token{}, api.ErrForm}, {long, 0, tk(2, 0, 20, 0, long), 0}, {long + "u", 0, api.Token{}, api.ErrLong},
		{"12ab", 0, tk(3, 0, 2, 12, ""), 0}, {"12ab", 2, tk(2, 2, 2, 0, "ab"), 0}, {"0", 0, tk(3, 0, 1, 0, ""), 0},
		{strings.Repeat("0", 30) + "7", 0, tk(3, 0, 31, 7, ""), 0}, {"1000000000000000", 0, tk(3, 0, 16, api.MaxNum, ""), 0},
		{"1000000000000001", 0, api.Token{}, api.ErrLong}, {strings.Repeat("9", 50), 0, api.Token{}, api.ErrLong},
		{"''", 0, tk(4, 0, 2, 0, ""), 0}, {"'it''s'", 0, tk(4, 0, 7, 0, "it's"), 0}, {"''''", 0, tk(4, 0, 4, 0, "'"), 0},
		{"'a' 'b'", 0, tk(4, 0, 3, 0, "a"), 0}, {"'", 0, api.Token{}, api.ErrShort}, {"'''", 0, api.Token{}, api.ErrShort},
		{"'a\n", 0, api.Token{}, api.ErrShort}, {"'a\n'", 0, api.Token{}, api.ErrForm}, {"'\x7f'", 0, api.Token{}, api.ErrForm},
		{"'" + strings.Repeat("''", 100) + "'", 0, tk(4, 0, 202, 0, strings.Repeat("'", 100)), 0},
		{"'" + strings.Repeat("x", 101) + "'", 0, api.Token{}, api.ErrLong}, {"'" + strings.Repeat("x", 101) + "\n'", 0, api.Token{}, api.ErrForm},
		{"|", 0, api.Token{}, api.ErrForm}, {"|a|", 0, api.Token{}, api.ErrForm}, {"|||", 0, tk(5, 0, 2, 0, "||"), 0},
		{"é", 0, api.Token{}, api.ErrForm}, {"\x00", 0, api.Token{}, api.ErrForm}, {"\x0b", 0, api.Token{}, api.ErrForm}, {" !", 0, tk(0, 1, 0, 0, ""), api.ErrForm},
		{"a--b\nc", 1, tk(2, 5, 1, 0, "c"), 0}, {"- -", 0, tk(5, 0, 1, 0, "-"), 0},
	} {
		got, err := Next(c.s, c.at)
		if got != c.want || err != c.err {
			t.Errorf("Next(%q, %d) = %v %d, want %v %d", c.s, c.at, got, err, c.want, c.err)
		}
	}
	for _, sign := range strings.Fields("( ) , . ; + - * / % || = <> < <= > >=") {
		for _, after := range []string{"", "a", " =", "("} {
			if got, err := Next(sign+after, 0); got != tk(api.TkSign, 0, len(sign), 0, sign) || err != api.OK {
				t.Errorf("sign %q: %v %d", sign+after, got, err)
			}
		}
	}
	if got, _ := Next("=<", 0); got.Size != 1 {
		t.Error("=< is two signs")
	}
}

func TestP8_2(t *testing.T) {
	l, at, err := Tokens("a<=1 --x")
	if want := []api.Token{tk(2, 0, 1, 0, "a"), tk(5, 1, 2, 0, "<="), tk(3, 3, 1, 1, "")}; fmt.Sprint(l, at, err) != fmt.Sprint(want, 0, 0) {
		t.Error(l, at, err)
	}
	for _, c := range []struct {
		s   string
		n   int
		at  int
		err api.Errno
	}{
		{"", 0, 0, 0}, {" -- ", 0, 0, 0}, {"a 'b", 0, 2, api.ErrShort}, {"a ! 'b", 0, 2, api.ErrForm}, {"1 2 " + long + "x", 0, 4, api.ErrLong},
		{strings.Repeat("(", 2000), 2000, 0, 0}, {strings.Repeat("(", 2001), 0, 0, api.ErrLong}, {strings.Repeat("!", 2001), 0, 0, api.ErrLong},
	} {
		if l, at, err := Tokens(c.s); len(l) != c.n || at != c.at || err != c.err {
			t.Errorf("Tokens(%q): %d tokens, %d, %d", c.s, len(l), at, err)
		}
	}
}

func TestP8_3(t *testing.T) {
	words := strings.Fields(`all analyze and as asc begin between bool by case check checkpoint commit create cross delete desc
		distinct drop else end except exists explain false foreign from group having in index inner insert int intersect into is
		join key left like limit not null offset on or order primary references rollback select set table text then true union
		unique update vacuum values when where`)
	for _, w := range words {
		if !Reserved(w) || Name(w) || Reserved(strings.ToUpper(w)) || Reserved(w+"x") || !Name(w+"x") {
			t.Error(w)
		}
	}
	for _, s := range []string{"a", "_", "z9_", long, "count", "sum"} {
		if !Name(s) || Reserved(s) {
			t.Errorf("%q is a name", s)
		}
	}
	for _, s := range []string{"", "A", "aB", "1a", "a b", "a\n", "é", "aé", "\xff", "a\xff", "a.b", "\"a\"", long + "u", "a-"} {
		if Name(s) || Reserved(s) {
			t.Errorf("%q is no name", s)
		}
	}
}

func bare(l []api.Token) string {
	s := ""
	for _, x := range l {
		x.At, x.Size = 0, 0
		s += fmt.Sprintf("%v;", x)
	}
	return s
}

func TestP8_4(t *testing.T) {
	r := rand.New(rand.NewSource(8))
	parts := []string{"a", "Select", "12", "'x'", "'", `"b"`, "<", ">", "=", "|", "||", "-", " ", "\n", "(", ".", "0", "_", "''", "--c\n"}
	for range 20000 {
		s := ""
		for range r.Intn(12) {
			s += parts[r.Intn(len(parts))]
		}
		l, _, err := Tokens(s)
		if err != api.OK {
			continue
		}
		pieces := make([]string, len(l))
		end := 0
		for i, x := range l {
			if x.At < end || skip(s, end) != x.At || x.Size < 1 {
				t.Fatalf("%q: %v", s, l)
			}
			end = x.At + x.Size
			pieces[i] = s[x.At:end]
			alone, _, err := Tokens(pieces[i])
			if err != api.OK || len(alone) != 1 || bare(alone) != bare(l[i:i+1]) || alone[0].Size != x.Size {
				t.Fatalf("%q alone: %v", pieces[i], alone)
			}
		}
		joined, _, err := Tokens(strings.Join(pieces, " "))
		if err != api.OK || bare(joined) != bare(l) {
			t.Fatalf("%q joined: %v", s, joined)
		}
	}
}
