package galois_test

import (
	"math/rand"
	"strings"
	"testing"

	"perigee/api"
	"perigee/galois"
)

func TestP4_4Examples(t *testing.T) {
	for _, c := range []struct{ p, q, product string }{
		{"\x01\x01", "\x02\x01", "\x02\x03\x01"},
		{"\x01\x01", "\x02\x01\x00", "\x02\x03\x01"},
		{"\x01\x01\x00\x00", "\x02\x01", "\x02\x03\x01"},
		{"", "", ""},
		{"", "\x01", ""},
		{"\x01", "", ""},
		{"\x00\x00", "\x01\x02", ""},
		{"\x00", "\x00", ""},
		{"\x02", "\x80", "\x1d"},
		{"\x00\x00\x02", "\x00\x80", "\x00\x00\x00\x1d"},
		// The middle coefficient of a square is 0.
		{"\x03\x05", "\x03\x05", "\x05\x00\x11"},
	} {
		if p, e := galois.Product(c.p, c.q); p != c.product || e != api.OK {
			t.Errorf("Product(%x, %x) = %x, %d, not %x", c.p, c.q, p, e, c.product)
		}
	}
	for _, c := range []struct{ p, q, quotient, rest string }{
		{"\x02\x03\x01", "\x01\x01", "\x02\x01", ""},
		{"\x03\x03\x01", "\x01\x01", "\x02\x01", "\x01"},
		{"\x03\x03\x01\x00", "\x01\x01\x00\x00", "\x02\x01", "\x01"},
		{"", "\x01", "", ""},
		{"\x00\x00\x00", "\x05\x01", "", ""},
		{"\x07", "\x00\x01", "", "\x07"},
		{"\x07\x00", "\x00\x01", "", "\x07"},
		{"\x07\x08", "\x00\x00\x01", "", "\x07\x08"},
		{"\x07\x08", "\x07\x08", "\x01", ""},
		{"\x1d", "\x80", "\x02", ""},
		{"\x1d\x00\x1d", "\x80\x00", "\x02\x00\x02", ""},
		{"\x05\x06\x07\x08", "\x00\x00\x00\x04", "\x02", "\x05\x06\x07"},
	} {
		if q, r, e := galois.Quotient(c.p, c.q); q != c.quotient || r != c.rest || e != api.OK {
			t.Errorf("Quotient(%x, %x) = %x, %x, %d, not %x, %x", c.p, c.q, q, r, e, c.quotient, c.rest)
		}
	}
	for _, p := range []string{"", "\x00", "\x01", "\x01\x02", strings.Repeat("\xff", 2000)} {
		for _, q := range []string{"", "\x00", "\x00\x00", strings.Repeat("\x00", 2000)} {
			if quotient, rest, e := galois.Quotient(p, q); quotient != "" || rest != "" || e != api.ErrArg {
				t.Errorf("Quotient(%x, %x) = %x, %x, %d", p, q, quotient, rest, e)
			}
		}
	}
}

func checkProduct(t *testing.T, p, q string) {
	t.Helper()
	s, e := galois.Product(p, q)
	if want, f := wantProduct(p, q); s != want || e != f {
		t.Fatalf("Product(%x, %x) = %x, %d, not %x, %d", p, q, s, e, want, f)
	}
}

// checkQuotient checks what determines the quotient and the rest.
func checkQuotient(t *testing.T, p, q string) {
	t.Helper()
	quotient, rest, e := galois.Quotient(p, q)
	if e != api.OK {
		t.Fatalf("Quotient(%x, %x): the error %d", p, q, e)
	}
	if wantTrimmed([]byte(quotient)) != quotient || wantTrimmed([]byte(rest)) != rest {
		t.Fatalf("Quotient(%x, %x) = %x, %x is not trimmed", p, q, quotient, rest)
	}
	if wantDegree(rest) >= wantDegree(q) {
		t.Fatalf("Quotient(%x, %x) has the rest %x", p, q, rest)
	}
	if sum := wantSum(rest, wantAnyProduct(quotient, q)); sum != wantTrimmed([]byte(p)) {
		t.Fatalf("Quotient(%x, %x) = %x, %x, which is for %x", p, q, quotient, rest, sum)
	}
}

func TestP4_4Random(t *testing.T) {
	r := rand.New(rand.NewSource(46))
	for range 30000 {
		p, q := anyPolynomial(r, r.Intn(9)), anyPolynomial(r, r.Intn(9))
		checkProduct(t, p, q)
		if wantDegree(q) >= 0 {
			checkQuotient(t, p, q)
			// Without a rest.
			checkQuotient(t, wantAnyProduct(p, q), q)
		}
	}
	for n := range 200 {
		p, q := anyPolynomial(r, r.Intn(500)), full(r, n+1)
		checkProduct(t, p, q)
		checkQuotient(t, p, q)
	}
}

// Every pair of elements as polynomials, alone and as the highest coefficients.
func TestP4_4All(t *testing.T) {
	for a := range 256 {
		for b := range 256 {
			x, y := string([]byte{byte(a)}), string([]byte{byte(b)})
			checkProduct(t, x, y)
			if b != 0 {
				checkQuotient(t, x, y)
				checkQuotient(t, "\x05\x03"+x, "\x07"+y)
			}
		}
	}
}

// The limit of a product is one of the degrees: bytes 0 at the ends do not count.
func TestP4_4Limit(t *testing.T) {
	r := rand.New(rand.NewSource(47))
	for _, n := range []int{0, 1, 2, 500, 511, 512, 513, 1022, 1023, 1024} {
		for _, degree := range []int{1022, 1023, 1024, 1025, 1026} {
			if degree < n {
				continue
			}
			checkProduct(t, full(r, n+1), full(r, degree-n+1))
			p, q := power(n, r.Intn(9)), power(degree-n, 2000)
			s, e := galois.Product(p, q)
			if degree >= 1024 {
				if s != "" || e != api.ErrLong {
					t.Errorf("the product of the degree %d: %d bytes, %d", degree, len(s), e)
				}
			} else if s != power(degree, 0) || e != api.OK {
				t.Errorf("the product of x^%d and x^%d: %d bytes, %d", n, degree-n, len(s), e)
			}
		}
	}
}

// The degree of 0 is -1, and counts as such: x^1024 may be multiplied by 0, and x^1025 may not.
func TestP4_4LimitOfZero(t *testing.T) {
	for _, zero := range []string{"", "\x00", strings.Repeat("\x00", 3000)} {
		for _, c := range []struct {
			degree int
			e      api.Errno
		}{{0, api.OK}, {1023, api.OK}, {1024, api.OK}, {1025, api.ErrLong}, {1026, api.ErrLong}, {5000, api.ErrLong}} {
			p := power(c.degree, 3)
			if s, e := galois.Product(p, zero); s != "" || e != c.e {
				t.Errorf("the product of x^%d and 0: %x, %d", c.degree, s, e)
			}
			if s, e := galois.Product(zero, p); s != "" || e != c.e {
				t.Errorf("the product of 0 and x^%d: %x, %d", c.degree, s, e)
			}
		}
		if s, e := galois.Product(zero, zero); s != "" || e != api.OK {
			t.Errorf("the product of 0 and 0: %x, %d", s, e)
		}
	}
}

// No limit is named for a quotient.
func TestP4_4Long(t *testing.T) {
	r := rand.New(rand.NewSource(48))
	for _, n := range []int{1023, 1024, 1025, 3000} {
		checkQuotient(t, full(r, n), full(r, 1+r.Intn(40)))
		checkQuotient(t, full(r, n), full(r, n-r.Intn(3)))
		checkQuotient(t, full(r, n), full(r, n+1))
	}
	// x^n is 1 modulo x + 1.
	q, rest, e := galois.Quotient(power(1<<18, 0), "\x01\x01")
	if q != strings.Repeat("\x01", 1<<18) || rest != "\x01" || e != api.OK {
		t.Errorf("x^(2^18) divided by x + 1: %d bytes, %x, %d", len(q), rest, e)
	}
}
