package convol_test

import (
	"math"
	"math/rand"
	"strings"
	"testing"

	"perigee/api"
	"perigee/convol"
)

// listed returns the symbol list whose symbols are the digits of a text.
func listed(text string) string {
	return strings.NewReplacer(" ", "", "0", "\x00", "1", "\x01").Replace(text)
}

func TestP6_2Examples(t *testing.T) {
	one := "10 11 10 10 01 00 10"
	for _, c := range []struct{ data, symbols string }{
		{"", strings.Repeat("01", 6)},
		{"\x00", strings.Repeat("01", 14)},
		{"\x80", one + strings.Repeat("01", 7)},
		// The last bit of a message is behind all others, and the tail takes it through the register.
		{"\x01", strings.Repeat("01", 7) + one},
		{"\x01\x00", strings.Repeat("01", 7) + one + strings.Repeat("01", 8)},
		// Two bits 1: too far from each other for the register to contain both, and just near enough.
		{"\x81", one + one},
		{"\x82", "10 11 10 10 01 00" + "01" + "11 10 10 01 00 10" + "01"},
	} {
		if s, e := convol.Encode(c.data); s != listed(c.symbols) || e != api.OK {
			t.Errorf("Encode(%x) = %x, %d, not %s", c.data, s, e, c.symbols)
		}
	}
	a, _ := convol.Encode("\x00")
	b, _ := convol.Encode("\x80")
	if n := differences(a, b); n != 10 {
		t.Errorf("the symbols of 00 and 80 differ in %d places", n)
	}
}

func checkEncode(t *testing.T, data string) {
	t.Helper()
	s, e := convol.Encode(data)
	if want, f := wantEncode(data); s != want || e != f {
		t.Fatalf("Encode of %d bytes, %.20x: %d symbols, %d, not %d, %d", len(data), data, len(s), e, len(want), f)
	}
	if e == api.OK && (len(s) != convol.Symbols(len(data)) || strings.Trim(s, "\x00\x01") != "") {
		t.Fatalf("Encode of %d bytes, %.20x: not a list of %d symbols", len(data), data, convol.Symbols(len(data)))
	}
}

// All messages of one and of two bytes.
func TestP6_2All(t *testing.T) {
	for i := range 1 << 8 {
		checkEncode(t, string([]byte{byte(i)}))
	}
	for i := range 1 << 16 {
		checkEncode(t, string([]byte{byte(i >> 8), byte(i)}))
	}
}

// Messages of every length.
func TestP6_2Random(t *testing.T) {
	r := rand.New(rand.NewSource(62))
	for n := range 1101 {
		checkEncode(t, anyMessage(r, n))
	}
	for _, n := range []int{1, 2, 3, 7, 8, 9, 255, 256, 1099, 1100} {
		for _, c := range []string{"\x00", "\x01", "\x55", "\x80", "\xff"} {
			checkEncode(t, strings.Repeat(c, n))
		}
	}
}

// The symbols are those of Step, one step after the other.
func TestP6_2Steps(t *testing.T) {
	r := rand.New(rand.NewSource(620))
	for n := range 50 {
		data := anyMessage(r, n)
		var symbols []byte
		state := 0
		for _, c := range messageDigits(data) {
			next, first, second := convol.Step(state, int(c-'0'))
			symbols = append(symbols, byte(first), byte(second))
			state = next
		}
		if s, e := convol.Encode(data); s != string(symbols) || e != api.OK {
			t.Fatalf("Encode(%x) = %x, %d, not %x", data, s, e, symbols)
		}
	}
}

func TestP6_2Limit(t *testing.T) {
	if s, e := convol.Encode(strings.Repeat("a", 1100)); len(s) != 17612 || e != api.OK {
		t.Errorf("Encode of 1100 bytes: %d symbols, %d", len(s), e)
	}
	for _, n := range []int{1101, 1102, 1 << 11, 1 << 16, 1<<16 + 1, 1 << 24} {
		if s, e := convol.Encode(strings.Repeat("\x00", n)); s != "" || e != api.ErrLong {
			t.Errorf("Encode of %d bytes: %d symbols, %d", n, len(s), e)
		}
	}
}

func TestP6_2Symbols(t *testing.T) {
	for _, c := range [][2]int{{0, 12}, {1, 28}, {2, 44}, {1099, 17596}, {1100, 17612}} {
		if k := convol.Symbols(c[0]); k != c[1] {
			t.Errorf("Symbols(%d) = %d, not %d", c[0], k, c[1])
		}
	}
	for n := range 1101 {
		if k := convol.Symbols(n); k != 16*n+12 {
			t.Errorf("Symbols(%d) = %d, not %d", n, k, 16*n+12)
		}
	}
	for _, n := range []int{-1, -2, -1100, 1101, 1102, 1 << 16, 1 << 32, 1<<32 + 1, 1 << 60, -1 << 60, math.MinInt, math.MaxInt} {
		if k := convol.Symbols(n); k != 0 {
			t.Errorf("Symbols(%d) = %d", n, k)
		}
	}
}
