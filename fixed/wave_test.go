package fixed_test

import (
	"math"
	"math/big"
	"testing"

	"perigee/api"
	"perigee/fixed"
)

func TestP1_5Examples(t *testing.T) {
	for _, c := range []struct {
		turn     uint32
		sin, cos int64
	}{
		{0, 0, api.One},
		{1, 2, api.One},
		{2, 3, api.One},
		{3, 5, api.One},
		{1000, 1571, api.One},
		{12345678, 19391492, 1073566707},
		{1 << 28, 410903207, 992008094},
		{1<<29 - 1, 759250123, 759250126},
		{1 << 29, 759250125, 759250125},
		{1<<29 + 1, 759250126, 759250123},
		{357913941, 536870911, 929887697},
		{715827883, 929887697, 536870911},
		{987654321, 1065237966, 134868755},
		{1<<30 - 1, api.One, 2},
		{1 << 30, api.One, 0},
		{1<<30 + 1, api.One, -2},
		{1500000000, 871655750, -627006984},
		{1<<31 - 1, 2, -api.One},
		{1 << 31, 0, -api.One},
		{1<<31 + 1, -2, -api.One},
		{2222222222, -117165311, -1067330218},
		{3 << 30, -api.One, 0},
		{3333333333, -1059333670, 175310241},
		{1<<32 - 1, -2, api.One},
	} {
		if n := fixed.Sin(c.turn); n != c.sin {
			t.Errorf("Sin(%d) = %d, want %d", c.turn, n, c.sin)
		}
		if n := fixed.Cos(c.turn); n != c.cos {
			t.Errorf("Cos(%d) = %d, want %d", c.turn, n, c.cos)
		}
	}
}

func TestP1_5Many(t *testing.T) {
	for _, turn := range turns() {
		if n, want := fixed.Sin(turn), wantSin(turn); n != want {
			t.Fatalf("Sin(%d) = %d, want %d", turn, n, want)
		}
		if n, want := fixed.Cos(turn), wantSin(turn+1<<30); n != want {
			t.Fatalf("Cos(%d) = %d, want %d", turn, n, want)
		}
	}
}

// The definition is off by less than 3.2 units, and another half is for the rounding here.
func TestP1_5IsTheSine(t *testing.T) {
	for _, turn := range turns() {
		angle := float64(turn) / (1 << 32) * 2 * math.Pi
		if d := math.Abs(float64(fixed.Sin(turn)) - math.Sin(angle)*api.One); d > 3.7 {
			t.Fatalf("Sin(%d) is off by %f", turn, d)
		}
		if d := math.Abs(float64(fixed.Cos(turn)) - math.Cos(angle)*api.One); d > 3.7 {
			t.Fatalf("Cos(%d) is off by %f", turn, d)
		}
	}
}

func TestP1_7Symmetry(t *testing.T) {
	for _, turn := range turns() {
		n := fixed.Sin(turn)
		if m := fixed.Sin(-turn); m != -n {
			t.Fatalf("Sin(%d) = %d, Sin(-%d) = %d", turn, n, turn, m)
		}
		if m := fixed.Sin(turn + 1<<31); m != -n {
			t.Fatalf("Sin(%d) = %d, half a turn later %d", turn, n, m)
		}
		if n, m := fixed.Sin(1<<30+turn), fixed.Sin(1<<30-turn); n != m {
			t.Fatalf("%d before and behind a quarter: %d, %d", turn, m, n)
		}
		if n, m := fixed.Cos(turn), fixed.Sin(turn+1<<30); n != m {
			t.Fatalf("Cos(%d) = %d, the sine a quarter later %d", turn, n, m)
		}
	}
}

func TestP1_7Bounds(t *testing.T) {
	for _, turn := range turns() {
		s, c := fixed.Sin(turn), fixed.Cos(turn)
		if s < -api.One || s > api.One || c < -api.One || c > api.One {
			t.Fatalf("of %d: sine %d, cosine %d", turn, s, c)
		}
		sum := new(big.Int).Add(times(s, s), times(c, c))
		if d := sum.Sub(sum, big64(1<<60)); d.CmpAbs(big64(1<<34)) > 0 {
			t.Fatalf("of %d: the squares are off by %d", turn, d)
		}
	}
}
