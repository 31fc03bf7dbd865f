package octet

import (
	"encoding/binary"
	"hash/crc32"
	"math"
	"math/rand"
	"strings"
	"testing"
)

func TestP5_1(t *testing.T) {
	for _, c := range []struct {
		n, size int
		want    string
	}{
		{258, 3, "\x00\x01\x02"}, {0, 0, ""}, {5, 0, ""}, {5, -1, ""}, {5, 9, ""}, {5, math.MinInt, ""}, {257, 1, "\x01"},
		{-1, 8, "\xff\xff\xff\xff\xff\xff\xff\xff"}, {-2, 2, "\xff\xfe"}, {math.MinInt, 8, "\x80\x00\x00\x00\x00\x00\x00\x00"},
		{65535, 2, "\xff\xff"}, {1 << 40, 6, "\x01\x00\x00\x00\x00\x00"},
	} {
		if got := Put(c.n, c.size); got != c.want {
			t.Errorf("Put(%d, %d) = %q", c.n, c.size, got)
		}
	}
	for _, c := range []struct {
		s        string
		at, size int
		want     int
		ok       bool
	}{
		{"\xff\xff", 0, 2, 65535, true}, {"\xff\xff", 0, 1, 255, true}, {"\xff\x01", 1, 1, 1, true}, {"\xff\xff", 1, 2, 0, false},
		{"\xff\xff", 2, 1, 0, false}, {"\xff\xff", 0, 0, 0, false}, {"\xff\xff", -1, 1, 0, false}, {"", 0, 1, 0, false},
		{"123456789", 0, 9, 0, false}, {"\xff\xff\xff\xff\xff\xff\xff\xff", 0, 8, -1, true},
		{"\xff\xff\xff\xff\xff\xff\xff\xff", 0, 7, 1<<56 - 1, true}, {"ab", math.MaxInt, 1, 0, false}, {"ab", math.MinInt, 1, 0, false},
		{"ab", 3, 1, 0, false}, {"ab", 0, math.MaxInt, 0, false}, {"ab", 1, -1, 0, false},
	} {
		if n, ok := Get(c.s, c.at, c.size); n != c.want || ok != c.ok {
			t.Errorf("Get(%q, %d, %d) = %d %v", c.s, c.at, c.size, n, ok)
		}
	}
	r := rand.New(rand.NewSource(1))
	for range 1000 {
		n := int(r.Uint64())
		var b [8]byte
		binary.BigEndian.PutUint64(b[:], uint64(n))
		size := r.Intn(9)
		if Put(n, size) != string(b[8-size:]) {
			t.Fatalf("Put(%d, %d)", n, size)
		}
	}
}

func TestP5_2(t *testing.T) {
	if PutText("ab") != "\x00\x02ab" || PutText("") != "\x00\x00" {
		t.Error("PutText")
	}
	long := strings.Repeat("x", 65534)
	for _, s := range []string{long, long + "y", long + "yz"} {
		want := s[:min(len(s), 65535)]
		got := PutText(s)
		if got[2:] != want || int(got[0])<<8+int(got[1]) != len(want) {
			t.Errorf("PutText of %d bytes: %d", len(s), len(got))
		}
	}
	for _, c := range []struct {
		s    string
		at   int
		want string
		next int
		ok   bool
	}{
		{"\x00\x02ab", 0, "ab", 4, true}, {"z\x00\x02abz", 1, "ab", 5, true}, {"\x00\x00", 0, "", 2, true}, {"\x00\x02a", 0, "", 0, false},
		{"\x00", 0, "", 0, false}, {"", 0, "", 0, false}, {"\x00\x00", -1, "", 0, false}, {"\x00\x00", 1, "", 0, false},
		{"\x00\x00", 2, "", 0, false}, {"\xff\xffab", 0, "", 0, false}, {"\x00\x00", math.MaxInt, "", 0, false},
	} {
		if s, next, ok := GetText(c.s, c.at); s != c.want || next != c.next || ok != c.ok {
			t.Errorf("GetText(%q, %d) = %q %d %v", c.s, c.at, s, next, ok)
		}
	}
}

func TestP5_3(t *testing.T) {
	if Sum("123456789") != 3421780262 || Sum("") != 0 {
		t.Error("the examples")
	}
	r := rand.New(rand.NewSource(2))
	for range 1000 {
		b := make([]byte, r.Intn(50))
		r.Read(b)
		if got := Sum(string(b)); got != int(crc32.ChecksumIEEE(b)) || got < 0 || got > 1<<32-1 {
			t.Fatalf("Sum(%q) = %d", b, got)
		}
	}
}

func TestP5_4(t *testing.T) {
	if Seal("123456789") != "\xcb\xf4\x39\x26123456789" || Seal("") != "\x00\x00\x00\x00" {
		t.Error("Seal")
	}
	for _, s := range []string{"", "abc", "\x00\x00", "\x00\x00\x00", "\x00\x00\x00\x01", "\x00\x00\x00\x00a", "\xcb\xf4\x39\x2612345678"} {
		if got, ok := Open(s); got != "" || ok {
			t.Errorf("Open(%q) = %q %v", s, got, ok)
		}
	}
	if s, ok := Open("\x00\x00\x00\x00"); s != "" || !ok {
		t.Error("Open of the sealed empty string")
	}
}

func TestP5_5(t *testing.T) {
	r := rand.New(rand.NewSource(3))
	for range 2000 {
		size := 1 + r.Intn(8)
		n := int(r.Uint64())
		if size < 8 {
			n &= 1<<(8*size) - 1
		}
		if got, ok := Get("x"+Put(n, size)+"y", 1, size); got != n || !ok {
			t.Fatalf("%d in %d bytes: %d", n, size, got)
		}
		b := make([]byte, 8+r.Intn(40))
		r.Read(b)
		s := string(b)
		if got, next, ok := GetText("ab"+PutText(s)+"cd", 2); got != s || next != 4+len(s) || !ok {
			t.Fatalf("text %q", s)
		}
		if got, ok := Open(Seal(s)); got != s || !ok {
			t.Fatalf("sealed %q", s)
		}
		from, bits := 32, 8*len(s)
		if r.Intn(3) == 0 {
			from, bits = 0, 32
		}
		broken := []byte(Seal(s))
		flip(r, broken, from, bits)
		if _, ok := Open(string(broken)); ok {
			t.Fatalf("broken %q", s)
		}
	}
}

// flip inverts at least one bit within 32 consecutive ones of the given number of bits from a bit on.
func flip(r *rand.Rand, b []byte, from, bits int) {
	at := from + r.Intn(bits)
	b[at/8] ^= 1 << (at % 8)
	for i := 1; i < 32 && at+i < from+bits; i++ {
		if r.Intn(2) == 0 {
			b[(at+i)/8] ^= 1 << ((at + i) % 8)
		}
	}
}
