package block

import (
	"slices"
	"strings"

	"perigee/api"
	"perigee/galois"
)

// parity returns the parity bytes of data.
func parity(data string) string {
	// The rest of the division makes the whole a multiple of the generator; its highest coefficients may be 0, and then they are missing.
	_, rest, _ := galois.Quotient(zeros(api.Parity)+reversed(data), generator())
	return reversed(rest + zeros(api.Parity-len(rest)))
}

// generator returns the polynomial of which all code blocks are multiples: its roots are theirs.
func generator() string {
	g := "\x01"
	for i := range api.Parity {
		g, _ = galois.Product(g, string([]byte{power(i), 1}))
	}
	return g
}

// power returns the power of 2 with the exponent n.
func power(n int) byte {
	x, _ := galois.Pow(2, n)
	return x
}

// reversed puts the coefficients of a code block in the order of galois, the lowest power of x first, and back.
func reversed(s string) string {
	b := []byte(s)
	slices.Reverse(b)
	return string(b)
}

func zeros(n int) string { return strings.Repeat("\x00", n) }
