package crc_test

import (
	"math/rand"
	"testing"

	"perigee/crc"
)

func checkParts(t *testing.T, state uint32, x, y string) {
	t.Helper()
	whole := crc.Next16(uint16(state), x+y)
	if n := crc.Next16(crc.Next16(uint16(state), x), y); n != whole {
		t.Fatalf("from %04x over %x and %x to %04x, over both to %04x", uint16(state), x, y, n, whole)
	}
	whole32 := crc.Next32(state, x+y)
	if n := crc.Next32(crc.Next32(state, x), y); n != whole32 {
		t.Fatalf("from %08x over %x and %x to %08x, over both to %08x", state, x, y, n, whole32)
	}
}

func TestP3_5Parts(t *testing.T) {
	r := rand.New(rand.NewSource(351))
	for range 5000 {
		checkParts(t, anySum(r), anyString(r, r.Intn(20)), anyString(r, r.Intn(20)))
	}
	// Every place at which a string can be cut.
	b := anyString(r, 300)
	for i := range len(b) + 1 {
		checkParts(t, anySum(r), b[:i], b[i:])
	}
}

// difference returns n bytes in which bits from a place on are those of a pattern.
// The bits of a byte count from its highest one, or else from its lowest one.
func difference(n, at int, pattern uint32, highest bool) string {
	d := make([]byte, n)
	for ; pattern != 0; pattern >>= 1 {
		bit := at % 8
		if highest {
			bit = 7 - bit
		}
		d[at/8] |= byte(pattern&1) << bit
		at++
	}
	return string(d)
}

// Every difference within 16 bits, at every place of some bytes.
func TestP3_6Bursts16(t *testing.T) {
	r := rand.New(rand.NewSource(361))
	b := anyString(r, 4)
	sum := crc.Sum16(b)
	for at := range 8 * len(b) {
		for pattern := uint32(1); pattern < 1<<min(16, 8*len(b)-at); pattern += 2 {
			if c := both(b, difference(len(b), at, pattern, true)); crc.Sum16(c) == sum {
				t.Fatalf("%x and %x have the same sum %04x", b, c, sum)
			}
		}
	}
}

func TestP3_6Bursts32(t *testing.T) {
	r := rand.New(rand.NewSource(362))
	for range 300000 {
		b := anyString(r, 5+r.Intn(8))
		pattern := anySum(r)
		at := r.Intn(8*len(b) - 31)
		if c := both(b, difference(len(b), at, pattern, false)); crc.Sum32(c) == crc.Sum32(b) {
			t.Fatalf("%x and %x have the same sum", b, c)
		}
	}
}

// One bit more than the promise names can be missed: the polynomials themselves.
func TestP3_6OneMore(t *testing.T) {
	r := rand.New(rand.NewSource(363))
	// The coefficients from the highest one on, 17 and 33 of them.
	d16, d32 := "\x88\x10\x80\x00", "\x41\x06\x71\xdb\x01"
	for n := range 20 {
		b := anyString(r, 5+n)
		if c := both(b, d16); crc.Sum16(c) != crc.Sum16(b) {
			t.Errorf("the sums of %x and %x differ", b, c)
		}
		if c := both(b, d32); crc.Sum32(c) != crc.Sum32(b) {
			t.Errorf("the sums of %x and %x differ", b, c)
		}
	}
}
