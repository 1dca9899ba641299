package galois_test

import (
	"math/rand"
	"testing"

	"perigee/api"
	"perigee/galois"
)

func TestP4_5Field(t *testing.T) {
	var mul [256][256]byte
	for a := range 256 {
		for b := range 256 {
			mul[a][b] = galois.Mul(byte(a), byte(b))
		}
	}
	for a := range 256 {
		if mul[a][1] != byte(a) || mul[1][a] != byte(a) {
			t.Fatalf("1 is not neutral for %02x", a)
		}
		for b := range 256 {
			if mul[a][b] != mul[b][a] {
				t.Fatalf("%02x and %02x do not commute", a, b)
			}
			for c := range 256 {
				if mul[mul[a][b]][c] != mul[a][mul[b][c]] {
					t.Fatalf("%02x, %02x and %02x: the product depends on the order", a, b, c)
				}
				if mul[a][b^c] != mul[a][b]^mul[a][c] {
					t.Fatalf("%02x times the sum of %02x and %02x is not the sum of the products", a, b, c)
				}
			}
		}
	}
}

// The powers of 2 are all different elements other than 0, and the powers of others belong to them.
func TestP4_5Powers(t *testing.T) {
	found := map[byte]bool{}
	for k := range 255 {
		x, e := galois.Pow(2, k)
		if e != api.OK || x == 0 || found[x] {
			t.Fatalf("Pow(02, %d) = %02x, %d", k, x, e)
		}
		found[x] = true
		if n, ok := galois.Log(x); n != k || !ok {
			t.Fatalf("Log(%02x) = %d, %t, not %d", x, n, ok, k)
		}
	}
}

func TestP4_5Quotients(t *testing.T) {
	for a := range 256 {
		for b := 1; b < 256; b++ {
			if q, e := galois.Div(byte(a), byte(b)); galois.Mul(q, byte(b)) != byte(a) || e != api.OK {
				t.Fatalf("Div(%02x, %02x) = %02x, %d", a, b, q, e)
			}
		}
	}
}

func TestP4_5Eval(t *testing.T) {
	r := rand.New(rand.NewSource(451))
	for range 10000 {
		p, q, x := anyPolynomial(r, r.Intn(30)), anyPolynomial(r, r.Intn(30)), anyElement(r)
		y, z := galois.Eval(p, x), galois.Eval(q, x)
		if n := galois.Eval(galois.Sum(p, q), x); n != y^z {
			t.Fatalf("the sum of %x and %x at %02x is %02x", p, q, x, n)
		}
		s, e := galois.Product(p, q)
		if n := galois.Eval(s, x); n != galois.Mul(y, z) || e != api.OK {
			t.Fatalf("the product of %x and %x at %02x is %02x, %d", p, q, x, n, e)
		}
	}
}

func TestP4_5Derived(t *testing.T) {
	r := rand.New(rand.NewSource(452))
	for range 10000 {
		p, q := anyPolynomial(r, r.Intn(30)), anyPolynomial(r, r.Intn(30))
		s, e := galois.Product(p, q)
		left, f := galois.Product(galois.Derived(p), q)
		right, g := galois.Product(p, galois.Derived(q))
		if e != api.OK || f != api.OK || g != api.OK {
			t.Fatalf("products of %x and %x: %d, %d, %d", p, q, e, f, g)
		}
		if d := galois.Derived(s); d != galois.Sum(left, right) {
			t.Fatalf("the derivative of the product of %x and %x is %x", p, q, d)
		}
	}
}
