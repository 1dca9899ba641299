package fixed_test

import (
	"math"
	"math/rand"
	"slices"
	"testing"

	"perigee/api"
	"perigee/fixed"
)

// R1: every function returns for all arguments.
func TestRuleReturns(t *testing.T) {
	l := few()
	for _, a := range l {
		for _, b := range l {
			for _, c := range l {
				fixed.Ratio(a, b, c)
				fixed.Clamp(a, b, c)
				fixed.Hypot(a, b, c, a, b, c, a, b)
				fixed.Hypot(a, b, c, a, b, c, a, b, c)
				fixed.Dot([]int64{a, b, c}, []int64{c, a, b})
				fixed.Dot([]int64{a, b, c}, []int64{c, a})
			}
			fixed.Mul(a, b)
			fixed.Div(a, b)
		}
		fixed.Sqrt(a)
		fixed.Sin(uint32(a))
		fixed.Cos(uint32(a))
	}
	fixed.Hypot(make([]int64, 100000)...)
	fixed.Dot(make([]int64, 100000), make([]int64, 100000))
}

// R2: with an error the result is 0.
func TestRuleErrors(t *testing.T) {
	r := rand.New(rand.NewSource(2))
	check := func(name string, n int64, e api.Errno) {
		t.Helper()
		if e != api.OK && n != 0 {
			t.Fatalf("%s: the error %d, and %d", name, e, n)
		}
	}
	for range 20000 {
		a, b, c := anyNumber(r), anyNumber(r), anyNumber(r)>>r.Intn(64)
		n, e := fixed.Mul(a, b)
		check("Mul", n, e)
		n, e = fixed.Div(a, c)
		check("Div", n, e)
		n, e = fixed.Ratio(a, b, c)
		check("Ratio", n, e)
		n, e = fixed.Sqrt(a)
		check("Sqrt", n, e)
		n, e = fixed.Hypot(anyList(r, r.Intn(12))...)
		check("Hypot", n, e)
		n, e = fixed.Dot(anyList(r, r.Intn(12)), anyList(r, r.Intn(12)))
		check("Dot", n, e)
	}
}

// R3: arguments are not changed, nor is what lies behind them in memory.
func TestRuleArguments(t *testing.T) {
	r := rand.New(rand.NewSource(3))
	for range 2000 {
		n := r.Intn(11)
		a, b := anyList(r, n+3), anyList(r, n+3)
		a2, b2 := slices.Clone(a), slices.Clone(b)
		fixed.Dot(a[:n], b[:n])
		fixed.Hypot(a[:n]...)
		fixed.Hypot(b[:n]...)
		if !slices.Equal(a, a2) || !slices.Equal(b, b2) {
			t.Fatalf("%d and %d have become %d and %d", a2, b2, a, b)
		}
	}
	// One list may be both arguments.
	l := []int64{3 << 30, 4 << 30}
	if n, e := fixed.Dot(l, l); n != 25<<30 || e != api.OK {
		t.Errorf("Dot of a list with itself = %d, %d", n, e)
	}
}

// R4: nil and an empty list mean the same.
func TestRuleEmpty(t *testing.T) {
	var none []int64
	empty := make([]int64, 0, 4)
	for _, a := range [][]int64{none, empty} {
		if n, e := fixed.Hypot(a...); n != 0 || e != api.OK {
			t.Errorf("Hypot of no numbers = %d, %d", n, e)
		}
		for _, b := range [][]int64{none, empty} {
			if n, e := fixed.Dot(a, b); n != 0 || e != api.OK {
				t.Errorf("Dot of no numbers = %d, %d", n, e)
			}
		}
		if n, e := fixed.Dot(a, []int64{1}); n != 0 || e != api.ErrArg {
			t.Errorf("Dot of no number and one = %d, %d", n, e)
		}
	}
}

// R6: results do not depend on earlier calls.
func TestRuleNoState(t *testing.T) {
	all := func() []int64 {
		var l []int64
		for _, a := range []int64{5, -7, 1 << 40, math.MinInt64, 0} {
			m, e := fixed.Mul(a, 3)
			d, f := fixed.Div(a, -9)
			q, g := fixed.Ratio(a, a, 1<<62)
			s, h := fixed.Sqrt(a)
			y, i := fixed.Hypot(a, 4)
			o, j := fixed.Dot([]int64{a, 1}, []int64{a, 2})
			l = append(l, m, d, q, s, y, o, fixed.Sin(uint32(a)), fixed.Cos(uint32(a)), fixed.Clamp(a, -1, 1))
			for _, e := range []api.Errno{e, f, g, h, i, j} {
				l = append(l, int64(e))
			}
		}
		return l
	}
	first := all()
	for range 100 {
		if again := all(); !slices.Equal(first, again) {
			t.Fatalf("first %d, then %d", first, again)
		}
	}
}
