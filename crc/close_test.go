package crc_test

import (
	"math/rand"
	"testing"

	"perigee/api"
	"perigee/crc"
)

func TestP3_4Examples(t *testing.T) {
	if s := crc.Close16(""); s != "\xff\xff" {
		t.Errorf("Close16 of the empty string = %x", s)
	}
	if s := crc.Close16("123456789"); s != "123456789\x29\xb1" {
		t.Errorf("Close16 of nine bytes = %x", s)
	}
	for _, c := range []struct {
		s, b string
		e    api.Errno
	}{
		{"\xff\xff", "", api.OK},
		{"\xff\xfe", "", api.ErrForm},
		{"\xff", "", api.ErrForm},
		{"", "", api.ErrForm},
		{"\x00", "", api.ErrForm},
		{"\x00\x00", "", api.ErrForm},
		{"\x00\xe1\xf0", "\x00", api.OK},
		// The bytes of the sum in the other order.
		{"\x00\xf0\xe1", "", api.ErrForm},
		// Bytes ahead of and behind a closed string. With a byte 0 behind it, it is closed again.
		{"\x00\xe1\xf0\x01", "", api.ErrForm},
		{"\x00\xe1\xf0\x00", "\x00\xe1", api.OK},
		{"\x00\x00\xe1\xf0", "", api.ErrForm},
		{"123456789\x29\xb1", "123456789", api.OK},
	} {
		if b, e := crc.Open16(c.s); b != c.b || e != c.e {
			t.Errorf("Open16(%x) = %x, %d", c.s, b, e)
		}
	}
}

func checkOpen(t *testing.T, s string) {
	t.Helper()
	b, e := crc.Open16(s)
	if want, f := wantOpen16(s); b != want || e != f {
		t.Fatalf("Open16(%x) = %x, %d, not %x, %d", s, b, e, want, f)
	}
}

func TestP3_4Random(t *testing.T) {
	r := rand.New(rand.NewSource(37))
	for range 5000 {
		b := anyString(r, r.Intn(30))
		s := crc.Close16(b)
		if want := wantClose16(b); s != want {
			t.Fatalf("Close16(%x) = %x, not %x", b, s, want)
		}
		if c, e := crc.Open16(s); c != b || e != api.OK {
			t.Fatalf("Open16(%x) = %x, %d, not %x", s, c, e, b)
		}
		checkOpen(t, b)
	}
}

// All strings of up to two bytes, and all sums behind a byte.
func TestP3_4All(t *testing.T) {
	for n := range 1 << 16 {
		high, low := byte(n>>8), byte(n)
		checkOpen(t, string([]byte{low}))
		checkOpen(t, string([]byte{high, low}))
		checkOpen(t, string([]byte{0xa7, high, low}))
	}
}

// Every byte of a closed string is checked, with every value that it can have.
func TestP3_4Wrong(t *testing.T) {
	r := rand.New(rand.NewSource(38))
	for _, n := range []int{0, 1, 2, 9, 100} {
		s := crc.Close16(anyString(r, n))
		for i := range s {
			for d := 1; d < 256; d++ {
				wrong := []byte(s)
				wrong[i] ^= byte(d)
				if b, e := crc.Open16(string(wrong)); b != "" || e != api.ErrForm {
					t.Fatalf("Open16(%x) = %x, %d", wrong, b, e)
				}
			}
		}
	}
}

func TestP3_4Long(t *testing.T) {
	r := rand.New(rand.NewSource(39))
	for _, n := range []int{65534, 65536, 1 << 20} {
		b := anyString(r, n)
		s := crc.Close16(b)
		if c, e := crc.Open16(s); s != wantClose16(b) || c != b || e != api.OK {
			t.Errorf("a string of %d bytes is closed or opened wrongly: %d", n, e)
		}
		if c, e := crc.Open16(s[1:]); c != "" || e != api.ErrForm {
			t.Errorf("%d bytes without the first one are opened: %d", n, e)
		}
	}
}
