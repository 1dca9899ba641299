package galois_test

import (
	"math"
	"math/rand"
	"testing"

	"perigee/api"
	"perigee/galois"
)

func TestP4_1Examples(t *testing.T) {
	for _, c := range []struct{ a, b, product byte }{
		{0x02, 0x80, 0x1d},
		{0x03, 0x03, 0x05},
		{0xff, 0x01, 0xff},
		{0x01, 0xff, 0xff},
		{0x02, 0x8e, 0x01},
		{0x00, 0x00, 0x00},
		{0x00, 0xff, 0x00},
		{0xff, 0x00, 0x00},
		{0x01, 0x01, 0x01},
		{0x80, 0x80, 0x13},
	} {
		if n := galois.Mul(c.a, c.b); n != c.product {
			t.Errorf("Mul(%02x, %02x) = %02x, not %02x", c.a, c.b, n, c.product)
		}
	}
	for _, c := range []struct {
		a, b, quotient byte
		e              api.Errno
	}{
		{0x01, 0x02, 0x8e, api.OK},
		{0x00, 0x05, 0x00, api.OK},
		{0x05, 0x03, 0x03, api.OK},
		{0xff, 0x01, 0xff, api.OK},
		{0xff, 0xff, 0x01, api.OK},
		{0x01, 0x00, 0x00, api.ErrArg},
		{0x00, 0x00, 0x00, api.ErrArg},
		{0xff, 0x00, 0x00, api.ErrArg},
	} {
		if n, e := galois.Div(c.a, c.b); n != c.quotient || e != c.e {
			t.Errorf("Div(%02x, %02x) = %02x, %d, not %02x, %d", c.a, c.b, n, e, c.quotient, c.e)
		}
	}
}

func TestP4_1All(t *testing.T) {
	for a := range 256 {
		for b := range 256 {
			if n := galois.Mul(byte(a), byte(b)); n != products[a][b] {
				t.Fatalf("Mul(%02x, %02x) = %02x, not %02x", a, b, n, products[a][b])
			}
			n, e := galois.Div(byte(a), byte(b))
			if want, f := wantDiv(byte(a), byte(b)); n != want || e != f {
				t.Fatalf("Div(%02x, %02x) = %02x, %d, not %02x, %d", a, b, n, e, want, f)
			}
		}
	}
}

func TestP4_2Examples(t *testing.T) {
	for _, c := range []struct {
		a byte
		n int
		x byte
		e api.Errno
	}{
		{0x02, 8, 0x1d, api.OK},
		{0x02, 255, 0x01, api.OK},
		{0x02, 256, 0x02, api.OK},
		{0x02, -1, 0x8e, api.OK},
		{0x02, -255, 0x01, api.OK},
		{0x02, -256, 0x8e, api.OK},
		{0x02, 0, 0x01, api.OK},
		{0x07, 1, 0x07, api.OK},
		{0x01, math.MinInt, 0x01, api.OK},
		{0x00, 0, 0x01, api.OK},
		{0x00, 1, 0x00, api.OK},
		{0x00, 255, 0x00, api.OK},
		{0x00, math.MaxInt, 0x00, api.OK},
		{0x00, -1, 0x00, api.ErrArg},
		{0x00, -255, 0x00, api.ErrArg},
		{0x00, math.MinInt, 0x00, api.ErrArg},
		// -2^63 is 127 modulo 255, and so is 2^63 - 1.
		{0x02, math.MinInt, 0xcc, api.OK},
		{0x02, math.MaxInt, 0xcc, api.OK},
	} {
		if x, e := galois.Pow(c.a, c.n); x != c.x || e != c.e {
			t.Errorf("Pow(%02x, %d) = %02x, %d, not %02x, %d", c.a, c.n, x, e, c.x, c.e)
		}
	}
	for _, c := range []struct {
		a  byte
		k  int
		ok bool
	}{
		{0x01, 0, true},
		{0x02, 1, true},
		{0x1d, 8, true},
		{0x8e, 254, true},
		{0x00, 0, false},
	} {
		if k, ok := galois.Log(c.a); k != c.k || ok != c.ok {
			t.Errorf("Log(%02x) = %d, %t, not %d, %t", c.a, k, ok, c.k, c.ok)
		}
	}
}

func checkPow(t *testing.T, a byte, n int) {
	t.Helper()
	x, e := galois.Pow(a, n)
	if want, f := wantPow(a, n); x != want || e != f {
		t.Fatalf("Pow(%02x, %d) = %02x, %d, not %02x, %d", a, n, x, e, want, f)
	}
}

// Every element, with exponents that go round several times in both directions.
func TestP4_2All(t *testing.T) {
	for a := range 256 {
		for n := -1030; n <= 1030; n++ {
			checkPow(t, byte(a), n)
		}
		k, ok := galois.Log(byte(a))
		if want, is := wantLog(byte(a)); k != want || ok != is {
			t.Fatalf("Log(%02x) = %d, %t, not %d, %t", a, k, ok, want, is)
		}
	}
}

func TestP4_2Large(t *testing.T) {
	r := rand.New(rand.NewSource(42))
	for a := range 256 {
		for i := range 300 {
			checkPow(t, byte(a), math.MinInt+i)
			checkPow(t, byte(a), math.MaxInt-i)
		}
		for place := range 63 {
			checkPow(t, byte(a), 1<<place)
			checkPow(t, byte(a), -1<<place)
		}
		for range 300 {
			checkPow(t, byte(a), int(r.Uint64()))
		}
	}
}
