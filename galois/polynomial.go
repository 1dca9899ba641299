package galois

import (
	"strings"

	"perigee/api"
)

// Degree returns the degree of a polynomial.
func Degree(p string) int { return len(trimmed(p)) - 1 }

// Sum adds two polynomials.
func Sum(p, q string) string {
	sum := make([]byte, max(len(p), len(q)))
	copy(sum, p)
	for i := range len(q) {
		sum[i] ^= q[i]
	}
	return trimmed(string(sum))
}

// Product multiplies two polynomials.
func Product(p, q string) (string, api.Errno) {
	if Degree(p)+Degree(q) >= api.MaxTerms {
		return "", api.ErrLong
	}
	p, q = trimmed(p), trimmed(q)
	// One term more than there can be, so that the number is not below 0 for two polynomials 0.
	sum := make([]byte, len(p)+len(q))
	t := filled()
	for i := range len(p) {
		add(sum[i:], q, factor{&t, p[i]}.times)
	}
	return trimmed(string(sum)), api.OK
}

// Quotient divides a polynomial by another one.
func Quotient(p, q string) (quotient, rest string, e api.Errno) {
	p, q = trimmed(p), trimmed(q)
	if q == "" {
		return "", "", api.ErrArg
	}
	top := len(q) - 1
	t := filled()
	scale := t.inverse(q[top])
	left := []byte(p)
	terms := make([]byte, max(len(p)-top, 0))
	for i := range len(terms) {
		at := len(terms) - 1 - i
		// With this coefficient the product of its term and q takes the highest term that is left away.
		terms[at] = t.product(left[at+top], scale)
		add(left[at:], q, factor{&t, terms[at]}.times)
	}
	return string(terms), trimmed(string(left)), api.OK
}

// Eval returns the value of a polynomial.
func Eval(p string, x byte) byte {
	t := filled()
	times := factor{&t, x}.times
	value := byte(0)
	for i := range len(p) {
		value = times(value) ^ p[len(p)-1-i]
	}
	return value
}

// Derived returns the derivative of a polynomial.
func Derived(p string) string {
	d := make([]byte, max(len(p)-1, 0))
	for i := range len(d) {
		if i%2 == 0 {
			d[i] = p[i+1]
		}
	}
	return trimmed(string(d))
}

// trimmed returns a polynomial without the bytes 0 at its end.
func trimmed(p string) string { return strings.TrimRight(p, "\x00") }

// add adds to the coefficients of sum those of q, each one changed.
func add(sum []byte, q string, change func(byte) byte) {
	for i := range len(q) {
		sum[i] ^= change(q[i])
	}
}
