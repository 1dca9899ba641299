package crc_test

import (
	"math"
	"math/rand"

	"perigee/api"
)

// This file: the definitions of the chapter, bit by bit, and the strings and numbers that the tests use.

func take16(r uint16, bit bool) uint16 {
	if r >= 0x8000 != bit {
		return r*2 ^ 0x1021
	}
	return r * 2
}

func take32(r uint32, bit bool) uint32 {
	if r%2 == 1 != bit {
		return r/2 ^ 0xedb88320
	}
	return r / 2
}

func wantNext16(state uint16, b string) uint16 {
	for _, c := range []byte(b) {
		for _, bit := range []byte{128, 64, 32, 16, 8, 4, 2, 1} {
			state = take16(state, c&bit != 0)
		}
	}
	return state
}

// register32 returns what the register of 32 bits contains after it began with r and took b.
func register32(r uint32, b string) uint32 {
	for _, c := range []byte(b) {
		for _, bit := range []byte{1, 2, 4, 8, 16, 32, 64, 128} {
			r = take32(r, c&bit != 0)
		}
	}
	return r
}

func wantNext32(state uint32, b string) uint32 { return ^register32(^state, b) }

func wantJoin16(a, b uint16, n int) (uint16, api.Errno) {
	if n < 0 || n > 1<<30 {
		return 0, api.ErrArg
	}
	return b ^ wantNext16(a^0xffff, zeros(n)), api.OK
}

func wantJoin32(a, b uint32, n int) (uint32, api.Errno) {
	if n < 0 || n > 1<<30 {
		return 0, api.ErrArg
	}
	return b ^ register32(a, zeros(n)), api.OK
}

func wantClose16(b string) string {
	sum := wantNext16(0xffff, b)
	return b + string([]byte{byte(sum / 256), byte(sum % 256)})
}

func wantOpen16(s string) (string, api.Errno) {
	if len(s) < 2 || wantClose16(s[:len(s)-2]) != s {
		return "", api.ErrForm
	}
	return s[:len(s)-2], api.OK
}

// zeros returns n bytes 0.
func zeros(n int) string { return string(make([]byte, n)) }

// anyString returns a string of n bytes, which are often 00 or ff.
func anyString(r *rand.Rand, n int) string {
	b := make([]byte, n)
	for i := range b {
		switch r.Intn(4) {
		case 0:
		case 1:
			b[i] = 0xff
		default:
			b[i] = byte(r.Intn(256))
		}
	}
	return string(b)
}

// anySum returns a number of 32 bits, which is often one bit alone, or all but one.
func anySum(r *rand.Rand) uint32 {
	switch r.Intn(4) {
	case 0:
		return 1 << r.Intn(32)
	case 1:
		return ^(1 << r.Intn(32))
	}
	return r.Uint32()
}

// noLengths returns numbers that are given as lengths of strings that are joined, and are not.
func noLengths() []int {
	return []int{math.MinInt, math.MinInt + 1, -1 << 32, -1 << 30, -2, -1, 1<<30 + 1, 1<<30 + 2, 1 << 31, 1 << 32, 1<<32 + 1, 1 << 62, math.MaxInt - 1, math.MaxInt}
}

// both returns a with the bits that are 1 in d inverted.
func both(a, d string) string {
	b := []byte(a)
	for i := range d {
		b[i] ^= d[i]
	}
	return string(b)
}
