package crc_test

import (
	"math/rand"
	"testing"

	"perigee/api"
	"perigee/crc"
)

func TestP3_3Examples(t *testing.T) {
	for a := range 1 << 16 {
		if n, e := crc.Join16(uint16(a), 0xffff, 0); n != uint16(a) || e != api.OK {
			t.Fatalf("Join16(%04x, ffff, 0) = %04x, %d", a, n, e)
		}
	}
	for _, a := range []uint32{0, 1, 0x12345678, 1 << 31, 0xffffffff} {
		if n, e := crc.Join32(a, 0, 0); n != a || e != api.OK {
			t.Errorf("Join32(%08x, 0, 0) = %08x, %d", a, n, e)
		}
	}
	// With the sums of other strings of no bytes than the only one.
	if n, e := crc.Join16(0x1234, 0, 0); n != 0xedcb || e != api.OK {
		t.Errorf("Join16(1234, 0, 0) = %04x, %d", n, e)
	}
	if n, e := crc.Join32(0x12345678, 1, 0); n != 0x12345679 || e != api.OK {
		t.Errorf("Join32(12345678, 1, 0) = %08x, %d", n, e)
	}
}

// A number that is no length is refused, whatever the sums are.
func TestP3_3NoLength(t *testing.T) {
	for _, n := range noLengths() {
		for _, a := range []uint32{0, 1, 0xffff, 0xffffffff} {
			for _, b := range []uint32{0, 1, 0xffff, 0xffffffff} {
				if sum, e := crc.Join16(uint16(a), uint16(b), n); sum != 0 || e != api.ErrArg {
					t.Errorf("Join16(%x, %x, %d) = %x, %d", a, b, n, sum, e)
				}
				if sum, e := crc.Join32(a, b, n); sum != 0 || e != api.ErrArg {
					t.Errorf("Join32(%x, %x, %d) = %x, %d", a, b, n, sum, e)
				}
			}
		}
	}
}

func checkJoined(t *testing.T, x, y string) {
	t.Helper()
	if n, e := crc.Join16(crc.Sum16(x), crc.Sum16(y), len(y)); n != wantNext16(0xffff, x+y) || e != api.OK {
		t.Fatalf("Join16 of %x and %x = %04x, %d", x, y, n, e)
	}
	if n, e := crc.Join32(crc.Sum32(x), crc.Sum32(y), len(y)); n != wantNext32(0, x+y) || e != api.OK {
		t.Fatalf("Join32 of %x and %x = %08x, %d", x, y, n, e)
	}
}

func TestP3_3Strings(t *testing.T) {
	r := rand.New(rand.NewSource(33))
	for range 5000 {
		checkJoined(t, anyString(r, r.Intn(20)), anyString(r, r.Intn(40)))
	}
	for n := range 300 {
		checkJoined(t, anyString(r, r.Intn(3)), anyString(r, n))
	}
	for _, n := range []int{4095, 4096, 65535, 65536, 65537, 1<<20 + 5} {
		checkJoined(t, anyString(r, 9), anyString(r, n))
		checkJoined(t, anyString(r, n), anyString(r, 9))
	}
}

func checkJoin(t *testing.T, a, b uint32, n int) {
	t.Helper()
	x, e := crc.Join16(uint16(a), uint16(b), n)
	if want, f := wantJoin16(uint16(a), uint16(b), n); x != want || e != f {
		t.Fatalf("Join16(%04x, %04x, %d) = %04x, %d, not %04x, %d", uint16(a), uint16(b), n, x, e, want, f)
	}
	y, e := crc.Join32(a, b, n)
	if want, f := wantJoin32(a, b, n); y != want || e != f {
		t.Fatalf("Join32(%08x, %08x, %d) = %08x, %d, not %08x, %d", a, b, n, y, e, want, f)
	}
}

// Numbers that need not be the sums of any strings of the given length.
func TestP3_3Numbers(t *testing.T) {
	r := rand.New(rand.NewSource(34))
	for range 5000 {
		checkJoin(t, anySum(r), anySum(r), r.Intn(40))
	}
	for place := range 32 {
		for n := range 10 {
			checkJoin(t, 1<<place, 0, n)
			checkJoin(t, 0, 1<<place, n)
		}
	}
	for _, n := range []int{1<<16 - 1, 1 << 16, 1<<20 - 1} {
		checkJoin(t, anySum(r), anySum(r), n)
	}
}

// The register of 16 bits is the same again after 2^15 - 1 bits 0, that of 32 bits after 2^32 - 1.
// Hence 2^30 bytes 0 are like 8 bits 0 for the former, and like 2 bits 0 for the latter.
func TestP3_3Longest(t *testing.T) {
	r := rand.New(rand.NewSource(35))
	for range 500 {
		a, b := anySum(r), anySum(r)
		short := wantNext16(uint16(a)^0xffff, "\x00") ^ uint16(b)
		if n, e := crc.Join16(uint16(a), uint16(b), 1<<30); n != short || e != api.OK {
			t.Fatalf("Join16(%04x, %04x, 2^30) = %04x, %d, not %04x", uint16(a), uint16(b), n, e, short)
		}
		long := take32(take32(a, false), false) ^ b
		if n, e := crc.Join32(a, b, 1<<30); n != long || e != api.OK {
			t.Fatalf("Join32(%08x, %08x, 2^30) = %08x, %d, not %08x", a, b, n, e, long)
		}
	}
}

// Three strings have the same sum in whichever order they are joined, also long ones.
func TestP3_3Three(t *testing.T) {
	r := rand.New(rand.NewSource(36))
	for range 500 {
		a, b, c, m, n := anySum(r), anySum(r), anySum(r), r.Intn(1<<29), r.Intn(1<<29)
		ab, _ := crc.Join16(uint16(a), uint16(b), m)
		left, e := crc.Join16(ab, uint16(c), n)
		bc, _ := crc.Join16(uint16(b), uint16(c), n)
		right, f := crc.Join16(uint16(a), bc, m+n)
		if left != right || e != api.OK || f != api.OK {
			t.Fatalf("%d and %d bytes: %04x and %04x, %d, %d", m, n, left, right, e, f)
		}
		ab32, _ := crc.Join32(a, b, m)
		left32, e := crc.Join32(ab32, c, n)
		bc32, _ := crc.Join32(b, c, n)
		right32, f := crc.Join32(a, bc32, m+n)
		if left32 != right32 || e != api.OK || f != api.OK {
			t.Fatalf("%d and %d bytes: %08x and %08x, %d, %d", m, n, left32, right32, e, f)
		}
	}
}
