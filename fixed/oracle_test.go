package fixed_test

import (
	"math"
	"math/big"
	"math/rand"

	"perigee/api"
)

// This file: the definitions of the chapter in numbers of any size, and the numbers that the tests use.

func big64(a int64) *big.Int { return big.NewInt(a) }

func times(a, b int64) *big.Int { return new(big.Int).Mul(big64(a), big64(b)) }

func square(a *big.Int) *big.Int { return new(big.Int).Mul(a, a) }

// nearest returns floor(a / b + 1/2).
func nearest(a, b *big.Int) *big.Int {
	a, b = new(big.Int).Set(a), new(big.Int).Set(b)
	if b.Sign() < 0 {
		a.Neg(a)
		b.Neg(b)
	}
	// Div rounds down if the divisor is above 0.
	a.Lsh(a, 1)
	a.Add(a, b)
	return a.Div(a, b.Lsh(b, 1))
}

// fit returns a number as a result, and ErrRange if it does not fit.
func fit(a *big.Int) (int64, api.Errno) {
	if !a.IsInt64() {
		return 0, api.ErrRange
	}
	return a.Int64(), api.OK
}

func wantRatio(a, b, c int64) (int64, api.Errno) {
	if c == 0 {
		return 0, api.ErrArg
	}
	return fit(nearest(times(a, b), big64(c)))
}

func wantHypot(l []int64) (int64, api.Errno) {
	if len(l) > 8 {
		return 0, api.ErrArg
	}
	sum := new(big.Int)
	for _, n := range l {
		sum.Add(sum, times(n, n))
	}
	return fit(sum.Sqrt(sum))
}

func wantDot(a, b []int64) (int64, api.Errno) {
	if len(a) != len(b) || len(a) > 8 {
		return 0, api.ErrArg
	}
	sum := new(big.Int)
	for i := range a {
		sum.Add(sum, times(a[i], b[i]))
	}
	return fit(nearest(sum, big64(api.One)))
}

// wantSin follows the definition of the sine word by word.
func wantSin(t uint32) int64 {
	mul := func(a, b int64) int64 { return nearest(times(a, b), big64(1<<30)).Int64() }
	xy := func(r int64) (int64, int64) {
		x := nearest(times(r, 6746518852), big64(1<<32)).Int64()
		return x, mul(x, x)
	}
	s := func(r int64) int64 {
		x, y := xy(r)
		return mul(x, api.One-mul(y, 178956971-mul(y, 8947849-mul(y, 213044-mul(y, 2959-mul(y, 27))))))
	}
	c := func(r int64) int64 {
		_, y := xy(r)
		return api.One - mul(y, 536870912-mul(y, 44739243-mul(y, 1491308-mul(y, 26631-mul(y, 296)))))
	}
	up := func(r int64) int64 {
		if r <= 1<<29 {
			return s(r)
		}
		return c(1<<30 - r)
	}
	q, r := t>>30, int64(t&(1<<30-1))
	switch q {
	case 0:
		return up(r)
	case 1:
		return up(1<<30 - r)
	case 2:
		return -up(r)
	}
	return -up(1<<30 - r)
}

// edges returns numbers near the powers of 2, of both signs, and some others.
func edges() []int64 {
	l := []int64{0, 3, 7, 10, 12345, 46341, 357913941, 6746518852, 998244353000000007}
	for _, n := range []int{0, 1, 14, 15, 16, 28, 29, 30, 31, 32, 33, 45, 46, 47, 60, 61, 62} {
		p := int64(1) << n
		l = append(l, p-1, p, p+1)
	}
	l = append(l, math.MaxInt64-1, math.MaxInt64)
	for _, n := range l {
		l = append(l, -n)
	}
	return append(l, math.MinInt64)
}

// few returns a part of the edges, for the tests that take three of them at a time.
func few() []int64 {
	l := []int64{0, 1, 2, 3, 7, 1<<29 - 1, 1 << 29, 1<<30 - 1, 1 << 30, 1<<30 + 1, 1 << 31, 1<<32 - 1, 1<<32 + 1, 1<<61 + 1, 1<<62 - 1, 1 << 62, math.MaxInt64 - 1, math.MaxInt64}
	for _, n := range l {
		l = append(l, -n)
	}
	return append(l, math.MinInt64)
}

// anyNumber returns a number of any length and sign; the same ones in each run.
func anyNumber(r *rand.Rand) int64 {
	return int64(r.Uint64()) >> r.Intn(64)
}

func anyList(r *rand.Rand, n int) []int64 {
	l := make([]int64, n)
	for i := range l {
		l[i] = anyNumber(r)
	}
	return l
}

// turns returns the turns at which the definition of the sine changes, their neighbours, and others.
func turns() []uint32 {
	l := []uint32{1000, 12345678, 357913941, 987654321, 2222222222, 3333333333}
	for i := range uint32(8) {
		for d := range uint32(9) {
			l = append(l, i<<29+d-4)
		}
	}
	for t := uint64(0); t < 1<<32; t += 9699690 {
		l = append(l, uint32(t))
	}
	r := rand.New(rand.NewSource(1))
	for range 5000 {
		l = append(l, r.Uint32())
	}
	return l
}
