package fixed_test

import (
	"math"
	"math/rand"
	"testing"

	"perigee/api"
	"perigee/fixed"
)

func checkDot(t *testing.T, a, b []int64) {
	t.Helper()
	n, e := fixed.Dot(a, b)
	if want, we := wantDot(a, b); n != want || e != we {
		t.Fatalf("Dot(%d, %d) = %d, %d, want %d, %d", a, b, n, e, want, we)
	}
}

func repeated(n int, a int64) []int64 {
	l := make([]int64, n)
	for i := range l {
		l[i] = a
	}
	return l
}

func TestP1_3Examples(t *testing.T) {
	const half = 1 << 29
	const big, least = math.MaxInt64, math.MinInt64
	for _, c := range []struct {
		a, b []int64
		want int64
		e    api.Errno
	}{
		{nil, nil, 0, api.OK},
		{[]int64{}, nil, 0, api.OK},
		{[]int64{api.One, 2}, []int64{3, api.One}, 5, api.OK},
		{[]int64{1}, []int64{half}, 1, api.OK},
		{[]int64{-1}, []int64{half}, 0, api.OK},
		{[]int64{3}, []int64{half}, 2, api.OK},
		{[]int64{-3}, []int64{half}, -1, api.OK},
		// The sum is rounded, not the products.
		{[]int64{1, 1}, []int64{half, half}, 1, api.OK},
		{[]int64{1, 1}, []int64{half / 2, half / 2}, 1, api.OK},
		{[]int64{-1, -1}, []int64{half, half}, -1, api.OK},
		{[]int64{1, 1}, []int64{half - 1, half}, 1, api.OK},
		{[]int64{1, -1}, []int64{half - 1, 0}, 0, api.OK},
		// Only the sum has to fit.
		{[]int64{1 << 62, 1 << 62, 5}, []int64{1 << 62, -1 << 62, api.One}, 5, api.OK},
		{[]int64{least, least, least, least, big, big, big, big}, []int64{least, least, least, least, -big, -big, -big, -big}, 1 << 36, api.OK},
		{[]int64{least, least, least, least, 1}, []int64{least, least, least, least, api.One}, 0, api.ErrRange},
		{repeated(8, least), repeated(8, least), 0, api.ErrRange},
		{repeated(8, least), []int64{least, least, least, least, big, big, big, big}, 1 << 35, api.OK},
		{[]int64{least, least, least, least, least, least, 9}, []int64{least, least, least, big, big, big, api.One}, 3<<33 + 9, api.OK},
		// The greatest and the least sum that fit, and their neighbours.
		{[]int64{1 << 62, -1, -1}, []int64{1 << 31, half, 1}, big, api.OK},
		{[]int64{1 << 62, -1, 0}, []int64{1 << 31, half, 1}, 0, api.ErrRange},
		{[]int64{-1 << 62, -1, 0}, []int64{1 << 31, half, 1}, least, api.OK},
		{[]int64{-1 << 62, -1, -1}, []int64{1 << 31, half, 1}, 0, api.ErrRange},
		{[]int64{1 << 62}, []int64{1 << 62}, 0, api.ErrRange},
		{[]int64{1 << 62}, []int64{-1 << 62}, 0, api.ErrRange},
		// Lists of different lengths, and too long ones.
		{[]int64{1}, nil, 0, api.ErrArg},
		{nil, []int64{1}, 0, api.ErrArg},
		{[]int64{1, 2}, []int64{1, 2, 3}, 0, api.ErrArg},
		{repeated(8, api.One), repeated(8, 1), 8, api.OK},
		{repeated(9, api.One), repeated(9, 1), 0, api.ErrArg},
		{repeated(9, 0), repeated(9, 0), 0, api.ErrArg},
		{repeated(9, 0), repeated(8, 0), 0, api.ErrArg},
		{repeated(8, 0), repeated(9, 0), 0, api.ErrArg},
		// ErrArg is the first error.
		{repeated(9, least), repeated(9, least), 0, api.ErrArg},
		{[]int64{least, least}, []int64{least}, 0, api.ErrArg},
	} {
		if n, e := fixed.Dot(c.a, c.b); n != c.want || e != c.e {
			t.Errorf("Dot(%d, %d) = %d, %d, want %d, %d", c.a, c.b, n, e, c.want, c.e)
		}
	}
}

// Partial sums of 2^127 and more do not matter, if they cancel each other.
func TestP1_3Cancelled(t *testing.T) {
	const least = math.MinInt64
	for n := 1; n <= 3; n++ {
		a, b := repeated(n, least), repeated(n, least)
		// - (2^63 - 1) 2^63 - 2^63 is - 2^126, for each product.
		for range n {
			a, b = append(a, least), append(b, math.MaxInt64)
		}
		a, b = append(a, least, 7), append(b, int64(n), api.One)
		if n, e := fixed.Dot(a, b); n != 7 || e != api.OK {
			t.Errorf("Dot(%d, %d) = %d, %d, want 7", a, b, n, e)
		}
	}
}

func TestP1_3Edges(t *testing.T) {
	for _, a := range edges() {
		for _, b := range edges() {
			checkDot(t, []int64{a}, []int64{b})
			checkDot(t, []int64{a, -b, 3}, []int64{b, a, 1 << 29})
			checkDot(t, []int64{a, 1 << 20, b, a, a}, []int64{b, 1 << 9, a, -b, -b})
		}
	}
}

func TestP1_3Many(t *testing.T) {
	r := rand.New(rand.NewSource(31))
	for range 20000 {
		n := r.Intn(11)
		a, b := anyList(r, n), anyList(r, n)
		checkDot(t, a, b)
		checkDot(t, a, anyList(r, r.Intn(11)))
	}
	// Great products that leave little.
	for range 20000 {
		x, y := anyNumber(r), anyNumber(r)
		u, v := anyNumber(r)>>1, anyNumber(r)>>1
		checkDot(t, []int64{x, u, y, v, 5}, []int64{y, v, -x, -u, anyNumber(r)})
	}
}

func TestP1_4(t *testing.T) {
	for _, c := range []struct{ a, low, high, want int64 }{
		{5, 1, 3, 3}, {5, 3, 1, 1}, {2, 1, 3, 2}, {0, 1, 3, 1}, {1, 1, 3, 1}, {3, 1, 3, 3},
		{0, 3, 1, 1}, {2, 3, 1, 1}, {-5, -3, -1, -3}, {0, -3, -1, -1}, {-2, -3, -1, -2},
		{math.MinInt64, math.MinInt64, math.MaxInt64, math.MinInt64},
		{math.MaxInt64, math.MinInt64, math.MaxInt64, math.MaxInt64},
		{0, math.MaxInt64, math.MinInt64, math.MinInt64},
	} {
		if n := fixed.Clamp(c.a, c.low, c.high); n != c.want {
			t.Errorf("Clamp(%d, %d, %d) = %d, want %d", c.a, c.low, c.high, n, c.want)
		}
	}
	for _, a := range few() {
		for _, low := range few() {
			for _, high := range few() {
				want := a
				if want < low {
					want = low
				}
				if want > high {
					want = high
				}
				if n := fixed.Clamp(a, low, high); n != want {
					t.Fatalf("Clamp(%d, %d, %d) = %d, want %d", a, low, high, n, want)
				}
			}
		}
	}
}
