package fixed

import (
	"math/bits"

	"perigee/api"
)

// wide is a number of 192 bits in two's complement: eight products do not fit into 128 bits.
type wide struct{ high, middle, low uint64 }

// product returns a b.
func product(a, b int64) wide {
	middle, low := bits.Mul64(uint64(a), uint64(b))
	// A factor below 0 was taken for one that is 2^64 greater.
	if a < 0 {
		middle -= uint64(b)
	}
	if b < 0 {
		middle -= uint64(a)
	}
	return wide{signs(middle), middle, low}
}

// signs returns 64 bits that are all equal to the highest bit of w.
func signs(w uint64) uint64 { return uint64(int64(w) >> 63) }

// plus returns the sum of two numbers.
func (w wide) plus(v wide) wide {
	low, carry := bits.Add64(w.low, v.low, 0)
	middle, carry := bits.Add64(w.middle, v.middle, carry)
	high, _ := bits.Add64(w.high, v.high, carry)
	return wide{high, middle, low}
}

// whole returns the floor of the number divided by 2^30.
func (w wide) whole() (int64, api.Errno) {
	// The quotient fits if the bits from its highest one on are all equal.
	sign := signs(w.middle)
	if w.high != sign || uint64(int64(w.middle)>>29) != sign {
		return 0, api.ErrRange
	}
	return int64(w.middle<<34 | w.low>>30), api.OK
}
