package convol_test

import (
	"math"
	"testing"

	"perigee/convol"
)

func TestP6_1Examples(t *testing.T) {
	for _, c := range [][5]int{
		{0, 0, 0, 0, 1},
		{0, 1, 32, 1, 0},
		// A single bit 1 on its way through the register.
		{32, 0, 16, 1, 1},
		{16, 0, 8, 1, 0},
		{8, 0, 4, 1, 0},
		{4, 0, 2, 0, 1},
		{2, 0, 1, 0, 0},
		{1, 0, 0, 1, 0},
		{63, 0, 31, 0, 1},
		{63, 1, 63, 1, 0},
		{42, 1, 53, 1, 0},
		{21, 0, 10, 0, 1},
	} {
		if next, first, second := convol.Step(c[0], c[1]); next != c[2] || first != c[3] || second != c[4] {
			t.Errorf("Step(%d, %d) = %d, %d, %d, not %d", c[0], c[1], next, first, second, c[2:])
		}
	}
}

func TestP6_1All(t *testing.T) {
	for state := range 64 {
		for bit := range 2 {
			next, first, second := convol.Step(state, bit)
			if n, a, b := wantStep(state, bit); next != n || first != a || second != b {
				t.Errorf("Step(%d, %d) = %d, %d, %d, not %d, %d, %d", state, bit, next, first, second, n, a, b)
			}
		}
	}
}

// noStates are numbers that are not states; some have the low bits of one.
func noStates() []int {
	return []int{-1, -2, -32, -63, -64, -65, 64, 65, 96, 127, 128, 256, 1 << 32, 1<<32 + 1, math.MinInt, math.MinInt + 1, math.MaxInt - 1, math.MaxInt}
}

// noBits are numbers that are not bits; some have the lowest bit of one.
func noBits() []int {
	return []int{-1, -2, 2, 3, 64, 256, 257, 1 << 32, 1<<32 + 1, 1 << 57, math.MinInt, math.MinInt + 1, math.MaxInt - 1, math.MaxInt}
}

func checkNoStep(t *testing.T, state, bit int) {
	t.Helper()
	if next, first, second := convol.Step(state, bit); next != 0 || first != 0 || second != 0 {
		t.Errorf("Step(%d, %d) = %d, %d, %d", state, bit, next, first, second)
	}
}

func TestP6_1Invalid(t *testing.T) {
	for _, state := range noStates() {
		checkNoStep(t, state, 0)
		checkNoStep(t, state, 1)
	}
	for _, bit := range noBits() {
		for state := range 64 {
			checkNoStep(t, state, bit)
		}
		for _, state := range noStates() {
			checkNoStep(t, state, bit)
		}
	}
}
