// Package fixed is layer 1: arithmetic with 30 fraction bits, with one exact rounding per operation. See shared/doc/01-fixed.md.
package fixed

import (
	"math/bits"

	"perigee/api"
)

// mostNumbers is the greatest number of numbers that Hypot and Dot take.
const mostNumbers = 8

// Mul returns the nearest integer of a b / 2^30.
func Mul(a, b int64) (int64, api.Errno) { return Ratio(a, b, api.One) }

// Div returns the nearest integer of a 2^30 / b.
func Div(a, b int64) (int64, api.Errno) { return Ratio(a, api.One, b) }

// Ratio returns the nearest integer of a b / c.
func Ratio(a, b, c int64) (int64, api.Errno) {
	if c == 0 {
		return 0, api.ErrArg
	}
	high, low := bits.Mul64(size(a), size(b))
	by := size(c)
	if high >= by {
		return 0, api.ErrRange
	}
	q, r := bits.Div64(high, low, by)
	// Checked before the rounding too, which could carry q around to 0.
	if q > 1<<63 {
		return 0, api.ErrRange
	}
	negative := a^b^c < 0
	// A half is rounded up: away from 0 above it, and towards 0 below it.
	if r > by-r || r == by-r && !negative {
		q++
	}
	return signed(q, negative)
}

// size returns the absolute value of a number.
func size(a int64) uint64 {
	if a < 0 {
		return -uint64(a)
	}
	return uint64(a)
}

// signed returns the number with an absolute value and a sign.
func signed(q uint64, negative bool) (int64, api.Errno) {
	if negative && q <= 1<<63 {
		return int64(-q), api.OK
	}
	if q < 1<<63 {
		return int64(q), api.OK
	}
	return 0, api.ErrRange
}

// Sqrt returns the floor of the square root of a 2^30.
func Sqrt(a int64) (int64, api.Errno) {
	if a < 0 {
		return 0, api.ErrArg
	}
	return root(bits.Mul64(uint64(a), api.One)), api.OK
}

// Hypot returns the floor of the square root of the sum of squares.
func Hypot(l ...int64) (int64, api.Errno) {
	if len(l) > mostNumbers {
		return 0, api.ErrArg
	}
	var high, low uint64
	for _, n := range l {
		h, m := bits.Mul64(size(n), size(n))
		var carry uint64
		low, carry = bits.Add64(low, m, 0)
		high, _ = bits.Add64(high, h, carry)
		// The root of 2^126 does not fit. The sum only grows, and all eight squares might exceed 128 bits.
		if high >= 1<<62 {
			return 0, api.ErrRange
		}
	}
	return root(high, low), api.OK
}

// root returns the floor of the square root of a number below 2^126.
func root(high, low uint64) int64 {
	k := uint64(0)
	for bit := uint64(1) << 62; bit > 0; bit >>= 1 {
		next := k | bit
		h, l := bits.Mul64(next, next)
		if h < high || h == high && l <= low {
			k = next
		}
	}
	return int64(k)
}

// Dot returns the nearest integer of a sum of products, divided by 2^30.
func Dot(a, b []int64) (int64, api.Errno) {
	if len(a) != len(b) || len(a) > mostNumbers {
		return 0, api.ErrArg
	}
	sum := wide{low: api.One / 2}
	for i := range a {
		sum = sum.plus(product(a[i], b[i]))
	}
	return sum.whole()
}

// Clamp returns min(max(a, low), high).
func Clamp(a, low, high int64) int64 { return min(max(a, low), high) }
