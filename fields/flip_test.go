package fields_test

import (
	"math"
	"math/rand"
	"strings"
	"testing"

	"perigee/api"
	"perigee/fields"
)

func TestP2_5Examples(t *testing.T) {
	if b, e := fields.Flip("\x00", 7); b != "\x01" || e != api.OK {
		t.Errorf("Flip of bit 7 = %x, %d", b, e)
	}
	if b, e := fields.Flip("\x00", 8); b != "" || e != api.ErrArg {
		t.Errorf("Flip of bit 8 = %x, %d", b, e)
	}
	if n, e := fields.Distance("\xff\x00", "\x0f\x01"); n != 5 || e != api.OK {
		t.Errorf("Distance = %d, %d", n, e)
	}
	if n, e := fields.Distance("\x00", ""); n != 0 || e != api.ErrArg {
		t.Errorf("Distance of strings of different lengths = %d, %d", n, e)
	}
}

func checkFlip(t *testing.T, b string, at int) {
	t.Helper()
	c, e := fields.Flip(b, at)
	if c2, e2 := wantFlip(b, at); c != c2 || e != e2 {
		t.Fatalf("Flip(%x, %d) = %x, %d, not %x, %d", b, at, c, e, c2, e2)
	}
}

func TestP2_5Flip(t *testing.T) {
	r := rand.New(rand.NewSource(25))
	for n := range 12 {
		for _, b := range []string{strings.Repeat("\x00", n), strings.Repeat("\xff", n), anyString(r, n)} {
			for at := -9; at < 8*n+9; at++ {
				checkFlip(t, b, at)
			}
			for _, at := range []int{math.MinInt, math.MaxInt, math.MaxInt - 1, 1 << 32, -1 << 32} {
				checkFlip(t, b, at)
			}
		}
	}
	long := anyString(r, 65537)
	for _, at := range []int{-1, 0, 8*65536 - 1, 8 * 65536, math.MaxInt} {
		checkFlip(t, long[1:], at)
		checkFlip(t, long, at)
	}
}

func checkDistance(t *testing.T, a, b string) {
	t.Helper()
	n, e := fields.Distance(a, b)
	if n2, e2 := wantDistance(a, b); n != n2 || e != e2 {
		t.Fatalf("Distance(%x, %x) = %d, %d, not %d, %d", a, b, n, e, n2, e2)
	}
}

func TestP2_5Distance(t *testing.T) {
	r := rand.New(rand.NewSource(26))
	for range 5000 {
		n := r.Intn(20)
		checkDistance(t, anyString(r, n), anyString(r, n))
		checkDistance(t, anyString(r, n), anyString(r, r.Intn(20)))
	}
	for a := range 256 {
		for b := range 256 {
			checkDistance(t, string([]byte{byte(a)}), string([]byte{byte(b)}))
		}
	}
	checkDistance(t, "", "")
	zeros, ones := strings.Repeat("\x00", 65537), strings.Repeat("\xff", 65537)
	checkDistance(t, zeros[1:], ones[1:])
	// The length of either string is named ahead of their being different.
	for _, other := range []string{"", "\x00", zeros[1:], ones} {
		checkDistance(t, zeros, other)
		checkDistance(t, other, zeros)
	}
}
