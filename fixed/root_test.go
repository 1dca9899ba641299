package fixed_test

import (
	"math"
	"math/big"
	"math/rand"
	"testing"

	"perigee/api"
	"perigee/fixed"
)

func checkSqrt(t *testing.T, a int64) {
	t.Helper()
	n, e := fixed.Sqrt(a)
	if a < 0 {
		if n != 0 || e != api.ErrArg {
			t.Fatalf("Sqrt(%d) = %d, %d, want 0, ErrArg", a, n, e)
		}
		return
	}
	want := times(a, 1<<30)
	want.Sqrt(want)
	if e != api.OK || n != want.Int64() {
		t.Fatalf("Sqrt(%d) = %d, %d, want %d", a, n, e, want)
	}
}

func checkHypot(t *testing.T, l []int64) {
	t.Helper()
	n, e := fixed.Hypot(l...)
	if want, we := wantHypot(l); n != want || e != we {
		t.Fatalf("Hypot(%d) = %d, %d, want %d, %d", l, n, e, want, we)
	}
}

func TestP1_2Sqrt(t *testing.T) {
	for a, want := range map[int64]int64{0: 0, 1: 32768, 2: 46340, 3: 56755, 4: 65536, api.One: api.One, 4 << 30: 2 << 30, math.MaxInt64: 99516432383215} {
		if n, e := fixed.Sqrt(a); n != want || e != api.OK {
			t.Errorf("Sqrt(%d) = %d, %d, want %d", a, n, e, want)
		}
	}
	for _, a := range []int64{-1, -2, -api.One, math.MinInt64 + 1, math.MinInt64} {
		checkSqrt(t, a)
	}
	for _, a := range edges() {
		checkSqrt(t, a)
	}
	r := rand.New(rand.NewSource(21))
	for range 20000 {
		checkSqrt(t, anyNumber(r))
	}
}

// The square roots are whole, or as near below a whole number as they can be.
func TestP1_2SqrtOfSquares(t *testing.T) {
	r := rand.New(rand.NewSource(22))
	for range 20000 {
		k := r.Int63n(3037000500) >> r.Intn(31)
		for d := int64(-2); d <= 2; d++ {
			checkSqrt(t, k*k+d)
		}
	}
}

func TestP1_2Hypot(t *testing.T) {
	for _, c := range []struct {
		l    []int64
		want int64
		e    api.Errno
	}{
		{nil, 0, api.OK},
		{[]int64{}, 0, api.OK},
		{[]int64{0}, 0, api.OK},
		{[]int64{-7}, 7, api.OK},
		{[]int64{3, 4}, 5, api.OK},
		{[]int64{-5, 12, 0}, 13, api.OK},
		{[]int64{1, 1}, 1, api.OK},
		{[]int64{1, 1, 1}, 1, api.OK},
		{[]int64{1, 1, 1, 1}, 2, api.OK},
		{[]int64{1, 1, 1, 1, 1, 1, 1, 1}, 2, api.OK},
		{[]int64{1, 1, 1, 1, 1, 1, 1, 1, 1}, 0, api.ErrArg},
		{make([]int64, 8), 0, api.OK},
		{make([]int64, 9), 0, api.ErrArg},
		{[]int64{math.MaxInt64}, math.MaxInt64, api.OK},
		{[]int64{-math.MaxInt64}, math.MaxInt64, api.OK},
		{[]int64{math.MinInt64}, 0, api.ErrRange},
		{[]int64{1 << 62, 1 << 62, 1 << 62}, 7987674492471257550, api.OK},
		{[]int64{1 << 62, 1 << 62, 1 << 62, 1 << 62}, 0, api.ErrRange},
		{[]int64{1 << 62, 1 << 62, 1 << 62, 1<<62 - 1}, math.MaxInt64, api.OK},
		// Together 2^126 - 1, and one more.
		{[]int64{math.MaxInt64, 4294967295, 92680, 530, 267}, math.MaxInt64, api.OK},
		{[]int64{math.MaxInt64, 4294967295, 92680, 530, 267, 1}, 0, api.ErrRange},
		// Sums of 2^128 and 2^129, and more than 2^127
		{[]int64{math.MinInt64, math.MinInt64, math.MinInt64, math.MinInt64}, 0, api.ErrRange},
		{[]int64{math.MinInt64, math.MinInt64, math.MinInt64, math.MinInt64, 3, 4}, 0, api.ErrRange},
		{[]int64{math.MinInt64, math.MinInt64, math.MinInt64, math.MinInt64, math.MinInt64, math.MinInt64, math.MinInt64, math.MinInt64}, 0, api.ErrRange},
		{[]int64{math.MaxInt64, math.MaxInt64, math.MaxInt64}, 0, api.ErrRange},
		// Too many numbers are the first error.
		{[]int64{1 << 62, 1 << 62, 1 << 62, 1 << 62, 1 << 62, 1 << 62, 1 << 62, 1 << 62, 1 << 62}, 0, api.ErrArg},
	} {
		if n, e := fixed.Hypot(c.l...); n != c.want || e != c.e {
			t.Errorf("Hypot(%d) = %d, %d, want %d, %d", c.l, n, e, c.want, c.e)
		}
	}
	for _, a := range edges() {
		checkHypot(t, []int64{a})
		for _, b := range edges() {
			checkHypot(t, []int64{a, b})
		}
	}
	r := rand.New(rand.NewSource(23))
	for range 20000 {
		checkHypot(t, anyList(r, r.Intn(11)))
	}
}

func TestP1_6Roots(t *testing.T) {
	r := rand.New(rand.NewSource(63))
	for range 20000 {
		l := anyList(r, r.Intn(9))
		k, e := fixed.Hypot(l...)
		if e != api.OK {
			continue
		}
		sum := new(big.Int)
		for _, n := range l {
			sum.Add(sum, times(n, n))
		}
		above := square(new(big.Int).Add(big64(k), big64(1)))
		if k < 0 || square(big64(k)).Cmp(sum) > 0 || above.Cmp(sum) <= 0 {
			t.Fatalf("Hypot(%d) = %d", l, k)
		}
	}
}
