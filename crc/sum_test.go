package crc_test

import (
	"hash/crc32"
	"math/rand"
	"strings"
	"testing"

	"perigee/crc"
)

func TestP3_1Examples(t *testing.T) {
	for _, c := range []struct {
		b   string
		sum uint16
	}{
		{"", 0xffff},
		{"\x00", 0xe1f0},
		{"123456789", 0x29b1},
	} {
		if n := crc.Sum16(c.b); n != c.sum {
			t.Errorf("Sum16(%x) = %04x, not %04x", c.b, n, c.sum)
		}
	}
	for _, c := range []struct {
		state uint16
		b     string
		sum   uint16
	}{
		{0, "\x01", 0x1021},
		{0, "", 0},
		{0x1234, "", 0x1234},
		{0, "\x00\x00\x00", 0},
		// A single bit 1 goes up to the highest place of the register, and then out of it.
		{0, "\x80", 0x9188},
		{1, "\x00", 0x0100},
		{0x80, "\x00", 0x8000},
		{0x0100, "\x00", 0x1021},
		{0, "123456789", 0x31c3},
	} {
		if n := crc.Next16(c.state, c.b); n != c.sum {
			t.Errorf("Next16(%04x, %x) = %04x, not %04x", c.state, c.b, n, c.sum)
		}
	}
}

func check16(t *testing.T, state uint16, b string) {
	t.Helper()
	if n, want := crc.Next16(state, b), wantNext16(state, b); n != want {
		t.Fatalf("Next16(%04x, %x) = %04x, not %04x", state, b, n, want)
	}
	if n, want := crc.Sum16(b), wantNext16(0xffff, b); n != want {
		t.Fatalf("Sum16(%x) = %04x, not %04x", b, n, want)
	}
}

// Every byte, and every state.
func TestP3_1All(t *testing.T) {
	for c := range 256 {
		b := string([]byte{byte(c)})
		for state := 0; state < 1<<16; state += 97 {
			check16(t, uint16(state), b)
		}
	}
	for state := range 1 << 16 {
		check16(t, uint16(state), "\xb5")
	}
}

func TestP3_1Random(t *testing.T) {
	r := rand.New(rand.NewSource(31))
	for range 20000 {
		check16(t, uint16(anySum(r)), anyString(r, r.Intn(40)))
	}
	for _, n := range []int{255, 256, 257, 65535, 65536, 65537, 1 << 20} {
		check16(t, uint16(anySum(r)), anyString(r, n))
		check16(t, 0xffff, zeros(n))
		check16(t, 0, strings.Repeat("\xff", n))
	}
}

func TestP3_2Examples(t *testing.T) {
	for _, c := range []struct {
		b   string
		sum uint32
	}{
		{"", 0},
		{"\x00", 0xd202ef8d},
		{"123456789", 0xcbf43926},
	} {
		if n := crc.Sum32(c.b); n != c.sum {
			t.Errorf("Sum32(%x) = %08x, not %08x", c.b, n, c.sum)
		}
	}
	for _, c := range []struct {
		state uint32
		b     string
		sum   uint32
	}{
		{0x12345678, "", 0x12345678},
		{0xffffffff, "", 0xffffffff},
		{0xffffffff, "\x00", 0xffffffff},
		// The register is the complement of the state: a single bit 1, of a byte or of the register.
		{0xffffffff, "\x80", ^uint32(0xedb88320)},
		{^uint32(0x80), "\x00", ^uint32(0xedb88320)},
		{^uint32(0x80000000), "\x00", ^uint32(0x00800000)},
	} {
		if n := crc.Next32(c.state, c.b); n != c.sum {
			t.Errorf("Next32(%08x, %x) = %08x, not %08x", c.state, c.b, n, c.sum)
		}
	}
}

func check32(t *testing.T, state uint32, b string) {
	t.Helper()
	if n, want := crc.Next32(state, b), wantNext32(state, b); n != want {
		t.Fatalf("Next32(%08x, %x) = %08x, not %08x", state, b, n, want)
	}
	if n, want := crc.Sum32(b), wantNext32(0, b); n != want {
		t.Fatalf("Sum32(%x) = %08x, not %08x", b, n, want)
	}
	// Another program computes the same checksum.
	if n, want := crc.Sum32(b), crc32.ChecksumIEEE([]byte(b)); n != want {
		t.Fatalf("Sum32(%x) = %08x, not %08x", b, n, want)
	}
}

// Every byte, with states whose bits are all of the possible ones.
func TestP3_2All(t *testing.T) {
	r := rand.New(rand.NewSource(320))
	for c := range 256 {
		b := string([]byte{byte(c)})
		for place := range 32 {
			check32(t, 1<<place, b)
			check32(t, ^uint32(1<<place), b)
		}
		for range 500 {
			check32(t, r.Uint32(), b)
		}
	}
}

func TestP3_2Random(t *testing.T) {
	r := rand.New(rand.NewSource(32))
	for range 20000 {
		check32(t, anySum(r), anyString(r, r.Intn(40)))
	}
	for _, n := range []int{255, 256, 257, 65535, 65536, 65537, 1 << 20} {
		check32(t, anySum(r), anyString(r, n))
		check32(t, 0xffffffff, zeros(n))
		check32(t, 0, strings.Repeat("\xff", n))
	}
}
