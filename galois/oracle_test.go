package galois_test

import (
	"math/rand"

	"perigee/api"
)

// This file: the definitions of the chapter, term by term, and the elements and polynomials that the tests use.

// wantMul multiplies two elements as polynomials over the field of two elements, and divides by the modulus.
func wantMul(a, b byte) byte {
	p := 0
	for i := range 8 {
		for j := range 8 {
			p ^= int(a) >> i & 1 * (int(b) >> j & 1) << (i + j)
		}
	}
	// x^8 + x^4 + x^3 + x^2 + 1 is taken away where the highest term that is left stands.
	for i := 14; i >= 8; i-- {
		if p>>i&1 == 1 {
			p ^= (256 + 16 + 8 + 4 + 1) << (i - 8)
		}
	}
	return byte(p)
}

// allProducts returns the products of all elements.
func allProducts() *[256][256]byte {
	var l [256][256]byte
	for a := range 256 {
		for b := range 256 {
			l[a][b] = wantMul(byte(a), byte(b))
		}
	}
	return &l
}

// products contains what wantMul returns.
var products = allProducts()

// wantInverse returns the element whose product with a, which is not 0, is 1.
func wantInverse(a byte) byte {
	for b := range 256 {
		if products[a][b] == 1 {
			return byte(b)
		}
	}
	panic("no inverse")
}

func wantDiv(a, b byte) (byte, api.Errno) {
	if b == 0 {
		return 0, api.ErrArg
	}
	for c := range 256 {
		if products[c][b] == a {
			return byte(c), api.OK
		}
	}
	panic("no quotient")
}

// wantFactors returns the product of n factors a.
func wantFactors(a byte, n uint64) byte {
	x := byte(1)
	// The factors a are taken 1, 2, 4, ... at a time.
	for ; n > 0; n /= 2 {
		if n%2 == 1 {
			x = products[x][a]
		}
		a = products[a][a]
	}
	return x
}

func wantPow(a byte, n int) (byte, api.Errno) {
	switch {
	case n >= 0:
		return wantFactors(a, uint64(n)), api.OK
	case a == 0:
		return 0, api.ErrArg
	}
	// The difference is the mathematical one, also for the least number.
	return wantInverse(wantFactors(a, -uint64(n))), api.OK
}

func wantLog(a byte) (int, bool) {
	x := byte(1)
	for k := range 255 {
		if x == a {
			return k, true
		}
		x = products[x][2]
	}
	return 0, false
}

func wantDegree(p string) int {
	degree := -1
	for i, c := range []byte(p) {
		if c != 0 {
			degree = i
		}
	}
	return degree
}

// wantTrimmed returns the trimmed polynomial with some coefficients.
func wantTrimmed(p []byte) string { return string(p[:wantDegree(string(p))+1]) }

// coefficient returns the coefficient of x^i, which is 0 behind the last byte.
func coefficient(p string, i int) byte {
	if i < 0 || i >= len(p) {
		return 0
	}
	return p[i]
}

func wantSum(p, q string) string {
	var l []byte
	for i := range len(p) + len(q) {
		l = append(l, coefficient(p, i)^coefficient(q, i))
	}
	return wantTrimmed(l)
}

// wantAnyProduct returns the trimmed product of two polynomials of any degree.
func wantAnyProduct(p, q string) string {
	var l []byte
	for k := range wantDegree(p) + wantDegree(q) + 1 {
		c := byte(0)
		for i := range k + 1 {
			c ^= products[coefficient(p, i)][coefficient(q, k-i)]
		}
		l = append(l, c)
	}
	return wantTrimmed(l)
}

func wantProduct(p, q string) (string, api.Errno) {
	if wantDegree(p)+wantDegree(q) >= 1024 {
		return "", api.ErrLong
	}
	return wantAnyProduct(p, q), api.OK
}

func wantEval(p string, x byte) byte {
	sum := byte(0)
	for i, c := range []byte(p) {
		sum ^= products[c][wantFactors(x, uint64(i))]
	}
	return sum
}

func wantDerived(p string) string {
	var l []byte
	for i := range len(p) {
		// The coefficient of x^(i + 1), i + 1 times.
		c := byte(0)
		for range i + 1 {
			c ^= coefficient(p, i+1)
		}
		l = append(l, c)
	}
	return wantTrimmed(l)
}

// anyElement returns an element, which is often 0 or 1.
func anyElement(r *rand.Rand) byte {
	switch r.Intn(4) {
	case 0:
		return 0
	case 1:
		return 1
	}
	return byte(r.Intn(256))
}

// anyPolynomial returns n coefficients, of which some at the end are often 0.
func anyPolynomial(r *rand.Rand, n int) string {
	p := make([]byte, n)
	for i := range p {
		p[i] = anyElement(r)
	}
	if r.Intn(3) == 0 {
		clear(p[r.Intn(n+1):])
	}
	return string(p)
}

// power returns the polynomial x^n, with some bytes 0 behind it.
func power(n, behind int) string {
	p := make([]byte, n+1+behind)
	p[n] = 1
	return string(p)
}

// full returns a polynomial of the degree n - 1 without a coefficient 0.
func full(r *rand.Rand, n int) string {
	p := make([]byte, n)
	for i := range p {
		p[i] = byte(1 + r.Intn(255))
	}
	return string(p)
}
