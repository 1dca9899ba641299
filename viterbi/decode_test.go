package viterbi_test

import (
	"math/rand"
	"slices"
	"strings"
	"testing"

	"perigee/api"
	"perigee/viterbi"
)

func TestP7_1Examples(t *testing.T) {
	zeros := func(n int) []int { return make([]int, n) }
	for _, c := range []struct {
		soft []int
		n    int
		data string
		sum  int
		e    api.Errno
	}{
		{slices.Repeat([]int{-7, 7}, 6), 0, "", 42, api.OK},
		{zeros(28), 1, "\x00", 0, api.OK},
		{known("\x80"), 1, "\x80", 98, api.OK},
		{zeros(27), 1, "", 0, api.ErrArg},
		{slices.Repeat([]int{8}, 12), 0, "", 0, api.ErrArg},
		// With no bytes there is no choice, whatever was received.
		{slices.Repeat([]int{7, -8}, 6), 0, "", -48, api.OK},
		{zeros(12), 0, "", 0, api.OK},
		// Where both messages have the same symbols, these are known: 80 and 00 have the same sum.
		{append(zeros(14), slices.Repeat([]int{-7, 7}, 7)...), 1, "\x00", 49, api.OK},
		{append(slices.Repeat([]int{-7, 7}, 7), zeros(14)...), 1, "\x00", 49, api.OK},
		// One value more or less decides it.
		{append(append([]int{1}, zeros(13)...), slices.Repeat([]int{-7, 7}, 7)...), 1, "\x80", 50, api.OK},
		{append(append([]int{-1}, zeros(13)...), slices.Repeat([]int{-7, 7}, 7)...), 1, "\x00", 49, api.OK},
	} {
		if data, sum, e := viterbi.Decode(c.soft, c.n); data != c.data || sum != c.sum || e != c.e {
			t.Errorf("Decode(%v, %d) = %x, %d, %d, not %x, %d, %d", c.soft, c.n, data, sum, e, c.data, c.sum, c.e)
		}
	}
}

// Lists for messages of no byte, of one and of two, compared with all messages.
func TestP7_1All(t *testing.T) {
	r := rand.New(rand.NewSource(71))
	for n, lists := range []int{20, 200, 1} {
		messages := allMessages(n)
		for _, values := range kinds() {
			for range lists {
				soft := anyList(r, 16*n+12, values)
				want, most := bestOf(soft, messages)
				if data, sum, e := viterbi.Decode(soft, n); data != want || sum != most || e != api.OK {
					t.Fatalf("Decode(%v, %d) = %x, %d, %d, not %x, %d", soft, n, data, sum, e, want, most)
				}
			}
		}
	}
}

func checkDecode(t *testing.T, soft []int, n int) {
	t.Helper()
	want, most := bestPath(soft, n)
	if data, sum, e := viterbi.Decode(soft, n); data != want || sum != most || e != api.OK {
		t.Fatalf("Decode of %d values, %v .., %d: %.20x, %d, %d, not %.20x, %d", len(soft), soft[:12], n, data, sum, e, want, most)
	}
}

// Longer messages: any values, and what is received of a message, with noise up to so much that nothing is left of it.
func TestP7_1Random(t *testing.T) {
	r := rand.New(rand.NewSource(711))
	for n := range 24 {
		for _, values := range kinds() {
			for range 3 {
				checkDecode(t, anyList(r, 16*n+12, values), n)
			}
		}
		for noise := range 15 {
			checkDecode(t, noisy(r, anyMessage(r, n), noise), n)
		}
	}
	for _, n := range []int{31, 32, 33, 100, 127, 128, 129, 256} {
		checkDecode(t, anyList(r, 16*n+12, []int{-1, 0, 1}), n)
		checkDecode(t, noisy(r, anyMessage(r, n), 9), n)
	}
}

// Two messages with the same sum: where their symbols differ, nothing is known.
func TestP7_1Ties(t *testing.T) {
	r := rand.New(rand.NewSource(712))
	other := 0
	for range 400 {
		n := 1 + r.Intn(20)
		x, y := anyMessage(r, n), []byte(anyMessage(r, n))
		if r.Intn(2) == 0 {
			// Messages that differ in one bit, or in two.
			y = []byte(x)
			for range 2 {
				y[r.Intn(n)] ^= 1 << r.Intn(8)
			}
		}
		soft, theirs := known(x), known(string(y))
		for i := range soft {
			if soft[i] != theirs[i] {
				soft[i] = 0
			}
		}
		checkDecode(t, soft, n)
		data, sum, _ := viterbi.Decode(soft, n)
		if data > min(x, string(y)) || sum != wantSum(soft, x) || sum != wantSum(soft, string(y)) {
			t.Fatalf("of %x and %x: %x, %d", x, y, data, sum)
		}
		if data != x {
			other++
		}
	}
	if other < 100 {
		t.Errorf("another message only %d times", other)
	}
}

// The longest messages, where many messages have the same sum, and where all of them have it.
func TestP7_1Long(t *testing.T) {
	r := rand.New(rand.NewSource(713))
	checkDecode(t, anyList(r, 17612, []int{-1, 0, 1}), 1100)
	for _, n := range []int{1, 2, 3, 50, 999, 1099, 1100} {
		if data, sum, e := viterbi.Decode(make([]int, 16*n+12), n); data != strings.Repeat("\x00", n) || sum != 0 || e != api.OK {
			t.Errorf("Decode of values 0, %d: %.20x, %d, %d", n, data, sum, e)
		}
	}
	for _, n := range []int{500, 1099, 1100} {
		x := anyMessage(r, n)
		if data, sum, e := viterbi.Decode(known(x), n); data != x || sum != wantSum(known(x), x) || e != api.OK {
			t.Errorf("Decode of %d bytes, %.20x: %.20x, %d, %d", n, x, data, sum, e)
		}
	}
}

func refuses(t *testing.T, soft []int, n int) {
	t.Helper()
	if data, sum, e := viterbi.Decode(soft, n); data != "" || sum != 0 || e != api.ErrArg {
		t.Errorf("Decode of %d values, %d: %.20x, %d, %d", len(soft), n, data, sum, e)
	}
}

func TestP7_1Lengths(t *testing.T) {
	for _, n := range noLengths() {
		// As many values as convol.Symbols says, and as many as there would be behind the limit.
		for _, k := range []int{0, 12, 28, 17612, 17628, 17644} {
			refuses(t, make([]int, k), n)
		}
	}
	// The number of values is that of another length, or of none.
	for _, n := range []int{0, 1, 2, 3, 64, 1099, 1100} {
		for _, k := range []int{0, 1, 11, 12, 13, 16 * n, 16*n + 6, 16*n + 10, 16*n + 11, 16*n + 13, 16*n + 14, 16*n + 28, 32*n + 24, 17612, 17628} {
			if k != 16*n+12 {
				refuses(t, make([]int, k), n)
			}
		}
	}
}

// Each place may have each soft value, and no other number.
func TestP7_1Values(t *testing.T) {
	for _, n := range []int{0, 1, 3} {
		for i := range 16*n + 12 {
			soft := make([]int, 16*n+12)
			for value := -8; value <= 7; value++ {
				soft[i] = value
				checkDecode(t, soft, n)
			}
			for _, value := range noSoft() {
				soft[i] = value
				refuses(t, soft, n)
			}
		}
	}
	soft := make([]int, 17612)
	for _, i := range []int{0, 1, 8805, 17599, 17600, 17611} {
		for _, value := range noSoft() {
			soft[i] = value
			refuses(t, soft, 1100)
		}
		soft[i] = 0
	}
}
