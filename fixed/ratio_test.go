package fixed_test

import (
	"math"
	"math/big"
	"math/rand"
	"testing"

	"perigee/api"
	"perigee/fixed"
)

func checkRatio(t *testing.T, a, b, c int64) {
	t.Helper()
	n, e := fixed.Ratio(a, b, c)
	if want, we := wantRatio(a, b, c); n != want || e != we {
		t.Fatalf("Ratio(%d, %d, %d) = %d, %d, want %d, %d", a, b, c, n, e, want, we)
	}
}

func checkMul(t *testing.T, a, b int64) {
	t.Helper()
	n, e := fixed.Mul(a, b)
	if want, we := wantRatio(a, b, api.One); n != want || e != we {
		t.Fatalf("Mul(%d, %d) = %d, %d, want %d, %d", a, b, n, e, want, we)
	}
}

func checkDiv(t *testing.T, a, b int64) {
	t.Helper()
	n, e := fixed.Div(a, b)
	if want, we := wantRatio(a, api.One, b); n != want || e != we {
		t.Fatalf("Div(%d, %d) = %d, %d, want %d, %d", a, b, n, e, want, we)
	}
}

func TestP1_1Examples(t *testing.T) {
	type call struct {
		name string
		f    func(a, b int64) (int64, api.Errno)
		a, b int64
		want int64
		e    api.Errno
	}
	double := func(a, c int64) (int64, api.Errno) { return fixed.Ratio(a, 2, c) }
	thrice := func(a, c int64) (int64, api.Errno) { return fixed.Ratio(a, 3, c) }
	for _, c := range []call{
		{"Mul", fixed.Mul, api.One, 5, 5, api.OK},
		{"Mul", fixed.Mul, 1, 1 << 29, 1, api.OK},
		{"Mul", fixed.Mul, -1, 1 << 29, 0, api.OK},
		{"Mul", fixed.Mul, 3, 1 << 29, 2, api.OK},
		{"Mul", fixed.Mul, -3, 1 << 29, -1, api.OK},
		{"Mul", fixed.Mul, 1, 1<<29 - 1, 0, api.OK},
		{"Mul", fixed.Mul, -1, 1<<29 + 1, -1, api.OK},
		{"Mul", fixed.Mul, 1 << 62, 2 << 30, 0, api.ErrRange},
		{"Mul", fixed.Mul, -1 << 62, 2 << 30, math.MinInt64, api.OK},
		{"Div", fixed.Div, 1, 3, 357913941, api.OK},
		{"Div", fixed.Div, -1, 2 << 30, 0, api.OK},
		{"Div", fixed.Div, 1, 2 << 30, 1, api.OK},
		{"Div", fixed.Div, 5, 0, 0, api.ErrArg},
		{"Div", fixed.Div, 0, 0, 0, api.ErrArg},
		{"Div", fixed.Div, math.MaxInt64, 1, 0, api.ErrRange},
		{"thrice", thrice, 7, 2, 11, api.OK},
		{"thrice", thrice, -7, 2, -10, api.OK},
		{"double", double, 1 << 62, 1, 0, api.ErrRange},
		{"double", double, -1 << 62, 1, math.MinInt64, api.OK},
		{"double", double, -1 << 62, -1, 0, api.ErrRange},
	} {
		if n, e := c.f(c.a, c.b); n != c.want || e != c.e {
			t.Errorf("%s(%d, %d) = %d, %d, want %d, %d", c.name, c.a, c.b, n, e, c.want, c.e)
		}
	}
}

// A quotient is rounded before it is known whether it fits.
func TestP1_1Limits(t *testing.T) {
	for _, c := range []struct {
		a, b, c, want int64
		e             api.Errno
	}{
		// (2^64 - 1) / 2 and (2^64 - 2) / 2
		{4294967295, 4294967297, 2, 0, api.ErrRange},
		{math.MaxInt64, 2, 2, math.MaxInt64, api.OK},
		// - (2^64 + 1) / 2 is rounded up to the least int64.
		{-274177, 67280421310721, 2, math.MinInt64, api.OK},
		{274177, -67280421310721, 2, math.MinInt64, api.OK},
		{274177, 67280421310721, -2, math.MinInt64, api.OK},
		{-274177, -67280421310721, -2, math.MinInt64, api.OK},
		{-274177, -67280421310721, 2, 0, api.ErrRange},
		// (2^66 - 1) / 4, of which the nearest integer is 2^64
		{23, 3208129404123400281, 4, 0, api.ErrRange},
		{-23, 3208129404123400281, 4, 0, api.ErrRange},
		// A result whose low 64 bits alone would fit
		{1 << 62, 1 << 62, 1, 0, api.ErrRange},
		{math.MinInt64, math.MinInt64, math.MinInt64, math.MinInt64, api.OK},
		{math.MinInt64, math.MinInt64, math.MaxInt64, 0, api.ErrRange},
		{math.MinInt64, -1, 1, 0, api.ErrRange},
		{math.MinInt64, 1, -1, 0, api.ErrRange},
		{math.MinInt64, -1, -1, math.MinInt64, api.OK},
		{math.MinInt64, 1, 1, math.MinInt64, api.OK},
		// The divisor 0 is the first error.
		{1 << 62, 1 << 62, 0, 0, api.ErrArg},
		{0, 0, 0, 0, api.ErrArg},
	} {
		if n, e := fixed.Ratio(c.a, c.b, c.c); n != c.want || e != c.e {
			t.Errorf("Ratio(%d, %d, %d) = %d, %d, want %d, %d", c.a, c.b, c.c, n, e, c.want, c.e)
		}
	}
}

func TestP1_1Edges(t *testing.T) {
	for _, a := range edges() {
		for _, b := range edges() {
			checkMul(t, a, b)
			checkDiv(t, a, b)
		}
	}
	for _, a := range few() {
		for _, b := range few() {
			for _, c := range few() {
				checkRatio(t, a, b, c)
			}
		}
	}
}

func TestP1_1Many(t *testing.T) {
	r := rand.New(rand.NewSource(11))
	for range 50000 {
		a, b, c := anyNumber(r), anyNumber(r), anyNumber(r)
		checkMul(t, a, b)
		checkDiv(t, a, b)
		checkRatio(t, a, b, c)
	}
}

// The quotients lie at a half, and next to it.
func TestP1_1Halves(t *testing.T) {
	r := rand.New(rand.NewSource(12))
	for range 20000 {
		by := int64(r.Uint64()>>1) >> r.Intn(62) &^ 1
		q := int64(r.Uint64()) >> r.Intn(64)
		if by == 0 || by > 1<<31 || q > 1<<31 || q < -1<<31 {
			continue
		}
		for d := int64(-1); d <= 1; d++ {
			checkRatio(t, q*by+by/2+d, 1, by)
			checkRatio(t, q*by+by/2+d, -1, by)
			checkRatio(t, q*by+by/2+d, 1, -by)
		}
	}
}

func TestP1_6Products(t *testing.T) {
	r := rand.New(rand.NewSource(61))
	l := edges()
	for range 300 {
		l = append(l, anyNumber(r))
	}
	for _, a := range l {
		if n, e := fixed.Mul(a, api.One); n != a || e != api.OK {
			t.Fatalf("Mul(%d, One) = %d, %d", a, n, e)
		}
		for _, b := range l {
			n, e := fixed.Mul(a, b)
			if m, f := fixed.Mul(b, a); n != m || e != f {
				t.Fatalf("Mul(%d, %d) = %d, %d, and in the other order %d, %d", a, b, n, e, m, f)
			}
			m, f := fixed.Mul(-a, b)
			if a == math.MinInt64 || e != api.OK || f != api.OK {
				continue
			}
			d := new(big.Int).Add(big64(n), big64(m))
			if d.CmpAbs(big64(1)) > 0 {
				t.Fatalf("Mul(%d, %d) = %d, and with %d it is %d", a, b, n, -a, m)
			}
		}
	}
}

func TestP1_6Quotients(t *testing.T) {
	r := rand.New(rand.NewSource(62))
	l := edges()
	for range 300 {
		l = append(l, anyNumber(r))
	}
	for _, a := range l {
		for _, b := range l {
			q, e := fixed.Div(a, b)
			if e != api.OK {
				continue
			}
			n, e := fixed.Mul(q, b)
			if e != api.OK {
				// The product may be greater than a by as much as is allowed, and no longer fit.
				continue
			}
			// |n - a| 2^31 is at most |b| + 2^31.
			d := new(big.Int).Sub(big64(n), big64(a))
			d.Lsh(d, 31)
			most := new(big.Int).Abs(big64(b))
			most.Add(most, big64(1<<31))
			if d.CmpAbs(most) > 0 {
				t.Fatalf("Div(%d, %d) = %d, and the product with it is %d", a, b, q, n)
			}
		}
	}
}
