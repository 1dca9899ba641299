package fields_test

import (
	"fmt"
	"math/big"
	"math/rand"
	"strings"

	"perigee/api"
)

// This file: the definitions of the chapter in texts of the digits 0 and 1, and the strings and numbers that the tests use.

// digits returns the bits of a string as digits.
func digits(b string) string {
	var l strings.Builder
	for i := range len(b) {
		fmt.Fprintf(&l, "%08b", b[i])
	}
	return l.String()
}

// undigits returns the string whose bits are some digits.
func undigits(l string) string {
	if len(l)%8 != 0 {
		panic("no whole bytes")
	}
	b := make([]byte, len(l)/8)
	for i, c := range l {
		if c == '1' {
			b[i/8] += []byte{128, 64, 32, 16, 8, 4, 2, 1}[i%8]
		}
	}
	return string(b)
}

// number returns the number of some digits.
func number(l string) *big.Int {
	n, ok := new(big.Int).SetString(l, 2)
	if !ok {
		panic("no digits")
	}
	return n
}

// power returns 2^n.
func power(n int) *big.Int { return new(big.Int).Lsh(big.NewInt(1), uint(n)) }

// isField tells whether at and width are a field of b.
func isField(b string, at, width int) bool {
	if width < 1 || width > 64 || at < 0 || at > len(b)*8 {
		return false
	}
	return at+width <= len(b)*8
}

// fieldDigits returns the digits of a field. Only the bytes that it touches are written out.
func fieldDigits(b string, at, width int) string {
	return digits(b[at/8 : (at+width+7)/8])[at%8:][:width]
}

func wantGet(b string, at, width int) (uint64, api.Errno) {
	if len(b) > 65536 {
		return 0, api.ErrLong
	}
	if !isField(b, at, width) {
		return 0, api.ErrArg
	}
	return number(fieldDigits(b, at, width)).Uint64(), api.OK
}

func wantSigned(b string, at, width int) (int64, api.Errno) {
	if len(b) > 65536 {
		return 0, api.ErrLong
	}
	if !isField(b, at, width) {
		return 0, api.ErrArg
	}
	l := fieldDigits(b, at, width)
	n := number(l)
	if l[0] == '1' {
		n.Sub(n, power(width))
	}
	return n.Int64(), api.OK
}

// wantReplaced returns b with the digits of a field replaced by those of a number of 0 or more.
func wantReplaced(b string, at, width int, v *big.Int) string {
	l := digits(b)
	return undigits(l[:at] + fmt.Sprintf("%0*b", width, v) + l[at+width:])
}

func wantPut(b string, at, width int, v uint64) (string, api.Errno) {
	if len(b) > 65536 {
		return "", api.ErrLong
	}
	if !isField(b, at, width) {
		return "", api.ErrArg
	}
	n := new(big.Int).SetUint64(v)
	if n.Cmp(power(width)) >= 0 {
		return "", api.ErrRange
	}
	return wantReplaced(b, at, width, n), api.OK
}

func wantPutSigned(b string, at, width int, v int64) (string, api.Errno) {
	if len(b) > 65536 {
		return "", api.ErrLong
	}
	if !isField(b, at, width) {
		return "", api.ErrArg
	}
	n, half := big.NewInt(v), power(width-1)
	if n.Cmp(half) >= 0 || n.Cmp(new(big.Int).Neg(half)) < 0 {
		return "", api.ErrRange
	}
	if v < 0 {
		n.Add(n, power(width))
	}
	return wantReplaced(b, at, width, n), api.OK
}

func wantPack(widths []int, values []uint64) (string, api.Errno) {
	if len(values) != len(widths) {
		return "", api.ErrArg
	}
	all := 0
	for _, w := range widths {
		if w < 1 || w > 64 {
			return "", api.ErrArg
		}
		all += w
	}
	if all > 8*65536 {
		return "", api.ErrLong
	}
	var l strings.Builder
	for i, v := range values {
		n := new(big.Int).SetUint64(v)
		if n.Cmp(power(widths[i])) >= 0 {
			return "", api.ErrRange
		}
		fmt.Fprintf(&l, "%0*b", widths[i], n)
	}
	for l.Len()%8 != 0 {
		l.WriteByte('0')
	}
	return undigits(l.String()), api.OK
}

func wantUnpack(widths []int, b string) ([]uint64, api.Errno) {
	if len(b) > 65536 {
		return nil, api.ErrLong
	}
	for _, w := range widths {
		if w < 1 || w > 64 {
			return nil, api.ErrArg
		}
	}
	l := digits(b)
	var values []uint64
	for _, w := range widths {
		if w > len(l) {
			return nil, api.ErrForm
		}
		values = append(values, number(l[:w]).Uint64())
		l = l[w:]
	}
	if len(l) > 7 || strings.Contains(l, "1") {
		return nil, api.ErrForm
	}
	return values, api.OK
}

func wantFlip(b string, at int) (string, api.Errno) {
	if len(b) > 65536 {
		return "", api.ErrLong
	}
	if at < 0 || at >= 8*len(b) {
		return "", api.ErrArg
	}
	l := []byte(digits(b))
	l[at] = '0' + '1' - l[at]
	return undigits(string(l)), api.OK
}

func wantDistance(a, b string) (int, api.Errno) {
	if len(a) > 65536 || len(b) > 65536 {
		return 0, api.ErrLong
	}
	if len(a) != len(b) {
		return 0, api.ErrArg
	}
	n, x, y := 0, digits(a), digits(b)
	for i := range x {
		if x[i] != y[i] {
			n++
		}
	}
	return n, api.OK
}

// anyString returns a string of n bytes, which are often 00 or ff.
func anyString(r *rand.Rand, n int) string {
	b := make([]byte, n)
	for i := range b {
		switch r.Intn(4) {
		case 0:
		case 1:
			b[i] = 0xff
		default:
			b[i] = byte(r.Intn(256))
		}
	}
	return string(b)
}

// anyNumber returns a number of any number of bits, which is often next to a power of 2.
func anyNumber(r *rand.Rand) uint64 {
	if r.Intn(2) == 0 {
		return r.Uint64() >> r.Intn(64)
	}
	return 1<<r.Intn(64) + uint64(r.Intn(3)) - 1
}

// anyWidths returns n widths, and a number below 2^width for each one.
func anyWidths(r *rand.Rand, n int) ([]int, []uint64) {
	widths, values := make([]int, n), make([]uint64, n)
	for i := range widths {
		widths[i] = 1 + r.Intn(64)
		if r.Intn(4) == 0 {
			widths[i] = []int{1, 7, 8, 9, 63, 64}[r.Intn(6)]
		}
		values[i] = r.Uint64()
		if r.Intn(4) == 0 {
			values[i] = 1<<64 - 1
		}
		values[i] >>= 64 - widths[i]
	}
	return widths, values
}
