package fields_test

import (
	"math/rand"
	"slices"
	"testing"

	"perigee/api"
	"perigee/fields"
)

func put(t *testing.T, b string, at, width int, v uint64) string {
	t.Helper()
	c, e := fields.Put(b, at, width, v)
	if e != api.OK {
		t.Fatalf("Put(%x, %d, %d, %d): %d", b, at, width, v, e)
	}
	return c
}

func distance(t *testing.T, a, b string) int {
	t.Helper()
	n, e := fields.Distance(a, b)
	if e != api.OK {
		t.Fatalf("Distance(%x, %x): %d", a, b, e)
	}
	return n
}

// Put changes no bit outside of its field.
func TestP2_6Outside(t *testing.T) {
	r := rand.New(rand.NewSource(61))
	for range 1000 {
		b := anyString(r, 1+r.Intn(12))
		width := 1 + r.Intn(min(64, 8*len(b)))
		at := r.Intn(8*len(b) - width + 1)
		c := put(t, b, at, width, r.Uint64()>>(64-width))
		for i := range 8 * len(b) {
			x, _ := fields.Get(b, i, 1)
			y, _ := fields.Get(c, i, 1)
			if x != y && (i < at || i >= at+width) {
				t.Fatalf("Put at %d of %d bits of %x has changed bit %d: %x", at, width, b, i, c)
			}
		}
	}
}

// Fields that have no bit in common can be put in any order.
func TestP2_6Order(t *testing.T) {
	r := rand.New(rand.NewSource(62))
	for range 1000 {
		widths, values := anyWidths(r, 1+r.Intn(8))
		packed, _ := fields.Pack(widths, values)
		starts := make([]int, len(widths))
		for i := range widths[1:] {
			starts[i+1] = starts[i] + widths[i]
		}
		b := string(make([]byte, len(packed)))
		for _, i := range r.Perm(len(widths)) {
			b = put(t, b, starts[i], widths[i], values[i])
		}
		if b != packed {
			t.Fatalf("Put of %d in %d bits is %x, not %x", values, widths, b, packed)
		}
	}
}

// Unpack returns the values that Pack was given, and Pack of what Unpack returns is the string.
func TestP2_6Inverse(t *testing.T) {
	r := rand.New(rand.NewSource(63))
	for range 2000 {
		widths, values := anyWidths(r, r.Intn(30))
		b, e := fields.Pack(widths, values)
		l, f := fields.Unpack(widths, b)
		if e != api.OK || f != api.OK || !slices.Equal(l, values) {
			t.Fatalf("Unpack of Pack(%d, %d) = %d, %d, %d", widths, values, l, e, f)
		}
		b = anyString(r, len(b))
		if l, e = fields.Unpack(widths, b); e != api.OK {
			continue
		}
		if c, e := fields.Pack(widths, l); c != b || e != api.OK {
			t.Fatalf("Pack of Unpack(%d, %x) = %x, %d", widths, b, c, e)
		}
	}
}

// Distance is a distance, and Flip changes it by 1.
func TestP2_6Distance(t *testing.T) {
	r := rand.New(rand.NewSource(64))
	for range 3000 {
		n := r.Intn(8)
		a, b, c := anyString(r, n), anyString(r, n), anyString(r, n)
		ab := distance(t, a, b)
		if (ab == 0) != (a == b) || distance(t, a, a) != 0 {
			t.Fatalf("the distance of %x and %x is %d", a, b, ab)
		}
		if distance(t, b, a) != ab {
			t.Fatalf("the distances of %x and %x differ", a, b)
		}
		if ab > distance(t, a, c)+distance(t, c, b) {
			t.Fatalf("from %x to %x it is less far by %x", a, b, c)
		}
		if n == 0 {
			continue
		}
		d, e := fields.Flip(b, r.Intn(8*n))
		if ad := distance(t, a, d); e != api.OK || ad != ab+1 && ad != ab-1 {
			t.Fatalf("the distance of %x is %d from %x and %d from %x", a, ab, b, ad, d)
		}
	}
}
