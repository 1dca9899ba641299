package fixed

import "perigee/api"

const (
	quarter = 1 << 30    // of a turn
	around  = 6746518852 // 2 pi in fixed point
)

// Rows of the table of terms.
const (
	sine = iota
	cosine
)

// series has the terms of the sine (divided by its argument) and of the cosine, from the innermost one on.
var series = [2][6]int64{
	{27, 2959, 213044, 8947849, 178956971, api.One},
	{296, 26631, 1491308, 44739243, 536870912, api.One},
}

// Sin returns the sine of a part of a turn.
func Sin(turn uint32) int64 {
	r := int64(turn % quarter)
	if turn&quarter != 0 {
		r = quarter - r
	}
	if turn >= 2*quarter {
		return -rise(r)
	}
	return rise(r)
}

// Cos returns the cosine of a part of a turn.
func Cos(turn uint32) int64 { return Sin(turn + quarter) }

// rise returns the sine of a part of the first quarter, whose end belongs to it.
func rise(r int64) int64 {
	if r <= quarter/2 {
		return wave(sine, r)
	}
	return wave(cosine, quarter-r)
}

// wave returns the sum of a series for a part of the first eighth of a turn.
func wave(row int, r int64) int64 {
	// No product is above One here, hence none fails.
	times := func(a, b int64) int64 {
		n, _ := Mul(a, b)
		return n
	}
	x, _ := Ratio(r, around, 4*quarter)
	y := times(x, x)
	sum := int64(0)
	for _, term := range series[row] {
		sum = term - times(y, sum)
	}
	if row == sine {
		return times(x, sum)
	}
	return sum
}
