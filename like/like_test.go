package like

import (
	"math/rand"
	"strings"
	"testing"
)

func TestP4_1(t *testing.T) {
	for _, c := range []struct {
		s, p string
		want bool
	}{
		{"abc", "a%", true}, {"a%", `a\%`, true}, {"ab", `a\%`, false}, {"", "%%", true}, {"abc", "a_", false}, {"", "", true},
		{"a", "", false}, {"", "_", false}, {"", "%", true}, {"a", "%", true}, {"abc", "abc", true}, {"abc", "abd", false},
		{"abc", "%c", true}, {"abc", "%b", false}, {"abc", "a%c", true}, {"ac", "a%c", true}, {"abcbc", "a%bc", true},
		{"abcbd", "a%bc", false}, {"aab", "%_b", true}, {"b", "%_b", false}, {"a_", `a\_`, true}, {"ax", `a\_`, false},
		{`a\`, `a\`, true}, {`a\`, `a\\`, true}, {`a\\`, `a\\`, false}, {`a\b`, `a\b`, true}, {`\`, `\`, true},
		{`\%`, `\\%`, true}, {`\xyz`, `\\%`, true}, {`%`, `\\%`, false}, {"A", "a", false}, {"\xff\x00", "__", true},
		{"é", "_", false}, {"é", "__", true}, {"mississippi", "m%issip%", true}, {"mississippi", "m%iss%ipp", false},
		{"a\nb", "a%b", true}, {"ab", "a%%%b", true}, {"abab", "%ab%ab%", true}, {"aba", "%ab%ab%", false},
	} {
		if got := Match(c.s, c.p); got != c.want {
			t.Errorf("Match(%q, %q) = %v", c.s, c.p, got)
		}
	}
}

// slow matches by the definition.
func slow(s, p string) bool {
	switch {
	case p == "":
		return s == ""
	case p[0] == '%':
		return slow(s, p[1:]) || s != "" && slow(s[1:], p)
	case p[0] == '_':
		return s != "" && slow(s[1:], p[1:])
	case p[0] == '\\' && len(p) > 1 && strings.Contains(`%_\`, p[1:2]):
		return s != "" && s[0] == p[1] && slow(s[1:], p[2:])
	}
	return s != "" && s[0] == p[0] && slow(s[1:], p[1:])
}

func random(r *rand.Rand, bytes string, n int) string {
	b := make([]byte, r.Intn(n))
	for i := range b {
		b[i] = bytes[r.Intn(len(bytes))]
	}
	return string(b)
}

func TestP4_1Random(t *testing.T) {
	r := rand.New(rand.NewSource(4))
	for range 20000 {
		s, p := random(r, `ab%_\`, 9), random(r, `ab%%_\`, 8)
		if got := Match(s, p); got != slow(s, p) {
			t.Fatalf("Match(%q, %q) = %v", s, p, got)
		}
	}
	long := strings.Repeat("a", 20000)
	if Match(long, strings.Repeat("%a", 50)+"b") {
		t.Error("a long pattern")
	}
}

func TestP4_2(t *testing.T) {
	for _, c := range []struct {
		p, exact string
		ok       bool
		prefix   string
	}{
		{"", "", true, ""}, {"abc", "abc", true, "abc"}, {`a\_b`, "a_b", true, "a_b"}, {"a_b", "", false, "a"},
		{"ab%c", "", false, "ab"}, {"%", "", false, ""}, {`\%`, "%", true, "%"}, {`\\`, `\`, true, `\`}, {`\`, `\`, true, `\`},
		{`a\`, `a\`, true, `a\`}, {`\\%`, "", false, `\`}, {`\a`, `\a`, true, `\a`}, {`a\%_`, "", false, "a%"}, {`x_\%`, "", false, "x"},
	} {
		if s, ok := Exact(c.p); s != c.exact || ok != c.ok {
			t.Errorf("Exact(%q) = %q %v", c.p, s, ok)
		}
		if s := Prefix(c.p); s != c.prefix {
			t.Errorf("Prefix(%q) = %q", c.p, s)
		}
	}
}

func TestP4_3(t *testing.T) {
	for s, want := range map[string]string{"": "", "5%": `5\%`, "a_b": `a\_b`, `\`: `\\`, "abc": "abc", `%_\x`: `\%\_\\x`} {
		if got := Quote(s); got != want {
			t.Errorf("Quote(%q) = %q", s, got)
		}
	}
}

func TestP4_4(t *testing.T) {
	r := rand.New(rand.NewSource(5))
	for range 5000 {
		s, u, p, q := random(r, `ab%_\`, 5), random(r, `ab%_\`, 5), random(r, `ab%_\`, 5), random(r, `ab%_\`, 5)
		if !Match(s, Quote(s)) || s != u && Match(u, Quote(s)) {
			t.Fatalf("Quote(%q) does not match only that", s)
		}
		if exact, ok := Exact(p); ok && Match(s, p) != (s == exact) {
			t.Fatalf("Exact(%q) is %q, but Match(%q) is %v", p, exact, s, Match(s, p))
		}
		if !Match(s, p) {
			continue
		}
		if !strings.HasPrefix(s, Prefix(p)) {
			t.Fatalf("%q matches %q without its prefix", s, p)
		}
		if !strings.HasSuffix(p, `\`) && Match(u, q) && !Match(s+u, p+q) {
			t.Fatalf("%q %q and %q %q match, but not together", s, p, u, q)
		}
	}
}
