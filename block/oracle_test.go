package block_test

import (
	"math/rand"
	"slices"

	"perigee/api"
)

// This file: the definitions of the chapter, term by term, and the words, places and changes that the tests use.

// wantMul multiplies two elements as polynomials over the field of two elements, and divides by the modulus.
func wantMul(a, b byte) byte {
	p := 0
	for i := range 8 {
		p ^= int(a) >> i & 1 * int(b) << i
	}
	for i := 14; i >= 8; i-- {
		if p>>i&1 == 1 {
			p ^= 0x11d << (i - 8)
		}
	}
	return byte(p)
}

// allProducts returns the products of all elements.
func allProducts() *[256][256]byte {
	var l [256][256]byte
	for a := range 256 {
		for b := range 256 {
			l[a][b] = wantMul(byte(a), byte(b))
		}
	}
	return &l
}

// products contains what wantMul returns.
var products = allProducts()

// roots returns Pow(2, 0) to Pow(2, 7).
func roots() []byte { return []byte{1, 2, 4, 8, 16, 32, 64, 128} }

// wantValue returns the value of the polynomial of a string, in which the first byte is the coefficient of the highest power of x.
func wantValue(b string, x byte) byte {
	sum, power := byte(0), byte(1)
	for i := range len(b) {
		sum ^= products[power][b[len(b)-1-i]]
		power = products[power][x]
	}
	return sum
}

// isBlock tells whether a string is a code block, by the definition.
func isBlock(b string) bool {
	if len(b) < 9 || len(b) > 231 {
		return false
	}
	for _, x := range roots() {
		if wantValue(b, x) != 0 {
			return false
		}
	}
	return true
}

// wantBlock returns the code block with some data: what is left when the product of the polynomials x - r with the roots r has been taken away from the data at each place.
func wantBlock(data string) string {
	g := []byte{1}
	for _, x := range roots() {
		longer := append(slices.Clone(g), 0)
		for i, c := range g {
			longer[i+1] ^= products[c][x]
		}
		g = longer
	}
	left := append([]byte(data), make([]byte, 8)...)
	for i := range len(data) {
		c := left[i]
		for j := range g {
			left[i+j] ^= products[c][g[j]]
		}
	}
	return data + string(left[len(data):])
}

// distance returns the number of places in which two strings of the same length differ, among those that are not erased and among all.
func distance(b, c string, erased []int) (others, all int) {
	for i := range len(b) {
		if b[i] != c[i] {
			all++
			if !slices.Contains(erased, i) {
				others++
			}
		}
	}
	return others, all
}

// different returns the number of different elements.
func different(l []int) int {
	l = slices.Clone(l)
	slices.Sort(l)
	return len(slices.Compact(l))
}

// isNear tells whether a code block is as near to a word as Decode demands.
func isNear(b, c string, erased []int) bool {
	f := different(erased)
	others, _ := distance(b, c, erased)
	return f <= 8 && others <= (8-f)/2
}

// allBlocks returns all code blocks with n data bytes.
func allBlocks(n int) []string {
	data := []string{""}
	for range n {
		var longer []string
		for _, d := range data {
			for c := range 256 {
				longer = append(longer, d+string([]byte{byte(c)}))
			}
		}
		data = longer
	}
	for i, d := range data {
		data[i] = wantBlock(d)
	}
	return data
}

// wantDecode looks through all the code blocks of the length.
func wantDecode(blocks []string, b string, erased []int) (string, int, api.Errno) {
	for _, c := range blocks {
		if isNear(b, c, erased) {
			_, n := distance(b, c, nil)
			return c[:len(c)-8], n, api.OK
		}
	}
	return "", 0, api.ErrBlock
}

// anyData returns n bytes, of which many are often 0.
func anyData(r *rand.Rand, n int) string {
	b := make([]byte, n)
	r.Read(b)
	if r.Intn(3) == 0 {
		for i := range b {
			if r.Intn(3) > 0 {
				b[i] = 0
			}
		}
	}
	return string(b)
}

// anyPlaces returns n different places of m.
func anyPlaces(r *rand.Rand, n, m int) []int { return r.Perm(m)[:n] }

// changed returns a string whose bytes at some places have become others.
func changed(r *rand.Rand, s string, places []int) string {
	b := []byte(s)
	for _, place := range places {
		b[place] ^= byte(1 + r.Intn(255))
	}
	return string(b)
}

// repeated returns a list in another order, in which elements occur once or more often.
func repeated(r *rand.Rand, l []int) []int {
	var m []int
	for _, n := range l {
		for range 1 + r.Intn(3) {
			m = append(m, n)
		}
	}
	r.Shuffle(len(m), func(i, j int) { m[i], m[j] = m[j], m[i] })
	return m
}

// upTo returns the numbers below n.
func upTo(n int) []int {
	var l []int
	for i := range n {
		l = append(l, i)
	}
	return l
}
