package convol_test

import (
	"math"
	"math/rand"
	"strings"
	"testing"

	"perigee/api"
	"perigee/convol"
)

func checkLinear(t *testing.T, x, y, z string) {
	t.Helper()
	a, e := convol.Encode(x)
	b, f := convol.Encode(y)
	c, g := convol.Encode(z)
	s, h := convol.Encode(xor(x, y, z))
	if e != api.OK || f != api.OK || g != api.OK || h != api.OK {
		t.Fatalf("messages of %d bytes: %d, %d, %d, %d", len(x), e, f, g, h)
	}
	if s != xor(a, b, c) {
		t.Fatalf("%.20x, %.20x and %.20x: the exclusive or of the symbols is that of another message", x, y, z)
	}
}

func TestP6_3Linear(t *testing.T) {
	r := rand.New(rand.NewSource(63))
	for n := range 1101 {
		checkLinear(t, anyMessage(r, n), anyMessage(r, n), anyMessage(r, n))
	}
	for i := range 1 << 16 {
		x, y := string([]byte{byte(i)}), string([]byte{byte(i >> 8)})
		checkLinear(t, x, y, "\x00")
	}
}

// From every state, six bits 0 lead to the state 0; fewer do not always.
func TestP6_3Tail(t *testing.T) {
	for first := range 64 {
		state := first
		for n := range 6 {
			if left := first >> n; state != left {
				t.Fatalf("from the state %d with %d bits 0: %d, not %d", first, n, state, left)
			}
			state, _, _ = convol.Step(state, 0)
		}
		if state != 0 {
			t.Errorf("from the state %d with the tail: %d", first, state)
		}
	}
	r := rand.New(rand.NewSource(631))
	for n := range 50 {
		data, state := anyMessage(r, n), 0
		for _, c := range messageDigits(data) {
			state, _, _ = convol.Step(state, int(c-'0'))
		}
		if state != 0 {
			t.Errorf("after %x and the tail: the state %d", data, state)
		}
	}
}

// weight returns the number of symbols of a step that differ from those of the step from the state 0 with the bit 0.
func weight(first, second int) int { return first + 1 - second }

// leastWeight returns the least weight of a path that leaves the state 0 with a bit 1 and returns to it.
func leastWeight() int {
	var least [64]int
	for state := range least {
		least[state] = math.MaxInt32
	}
	next, first, second := convol.Step(0, 1)
	least[next] = weight(first, second)
	// What is known is improved until nothing changes: no path needs more steps than there are states.
	for range 64 {
		for state := 1; state < 64; state++ {
			for bit := range 2 {
				next, first, second := convol.Step(state, bit)
				least[next] = min(least[next], least[state]+weight(first, second))
			}
		}
	}
	return least[0]
}

func TestP6_4Search(t *testing.T) {
	if n := leastWeight(); n != 10 {
		t.Errorf("the least number of different symbols is %d", n)
	}
}

func checkDistance(t *testing.T, x, y string) {
	t.Helper()
	a, e := convol.Encode(x)
	b, f := convol.Encode(y)
	if e != api.OK || f != api.OK {
		t.Fatalf("messages of %d bytes: %d, %d", len(x), e, f)
	}
	if n := differences(a, b); x != y && n < 10 {
		t.Fatalf("the symbols of %x and %x differ in %d places", x, y, n)
	}
}

// All messages of one byte with each other, and all of two bytes with two of them.
func TestP6_4All(t *testing.T) {
	for i := range 1 << 16 {
		x := string([]byte{byte(i >> 8), byte(i)})
		checkDistance(t, x[:1], x[1:])
		checkDistance(t, x, "\x00\x00")
		checkDistance(t, x, "\xa7\x1c")
	}
}

// Longer messages that differ in a few bits, also next to each other and at the ends.
func TestP6_4Near(t *testing.T) {
	r := rand.New(rand.NewSource(64))
	for range 3000 {
		n := 1 + r.Intn(40)
		x := anyMessage(r, n)
		at, mask := r.Intn(n), []byte(anyMessage(r, 4))
		y := xor(x, (strings.Repeat("\x00", at) + string(mask) + strings.Repeat("\x00", n))[:n])
		checkDistance(t, x, y)
		bit := 8*n - 1 - r.Intn(8*n)
		single := []byte(x)
		single[bit/8] ^= 128 >> (bit % 8)
		checkDistance(t, x, string(single))
	}
	long := anyMessage(r, 1100)
	checkDistance(t, long, xor(long, strings.Repeat("\x00", 1099)+"\x01"))
	checkDistance(t, long, xor(long, "\x80"+strings.Repeat("\x00", 1099)))
}
