package marker_test

import (
	"math/rand"
	"strings"
	"testing"

	"perigee/api"
	"perigee/marker"
)

func checkAttach(t *testing.T, symbols, want string, e api.Errno) {
	t.Helper()
	if s, f := marker.Attach(symbols); s != want || f != e {
		t.Fatalf("Attach of %d symbols, %.20x: %d symbols, %.40x, %d, not %d, %d", len(symbols), symbols, len(s), s, f, len(want), e)
	}
}

// The digits 1a cf fc 1d are 0001 1010 1100 1111 1111 1100 0001 1101.
func TestP8_2Examples(t *testing.T) {
	ahead := listed("0001 1010 1100 1111 1111 1100 0001 1101")
	checkAttach(t, "", ahead, api.OK)
	checkAttach(t, "\x00", ahead+"\x00", api.OK)
	checkAttach(t, "\x01\x01\x00\x01", ahead+"\x01\x01\x00\x01", api.OK)
	checkAttach(t, ahead, ahead+ahead, api.OK)
	checkAttach(t, "\x00\x02", "", api.ErrForm)
	checkAttach(t, "01", "", api.ErrForm)
}

// All lists of up to ten symbols, and longer ones up to the limit.
func TestP8_2Attach(t *testing.T) {
	r := rand.New(rand.NewSource(82))
	ahead := listed(markerDigits)
	for n := range 11 {
		for k := range 1 << n {
			symbols := make([]byte, n)
			for i := range n {
				symbols[i] = byte(k >> i & 1)
			}
			checkAttach(t, string(symbols), ahead+string(symbols), api.OK)
		}
	}
	for _, n := range []int{31, 32, 33, 64, 255, 256, 17612, 19999, 20000} {
		for _, symbols := range []string{anySymbols(r, n), strings.Repeat("\x00", n), strings.Repeat("\x01", n)} {
			checkAttach(t, symbols, ahead+symbols, api.OK)
		}
	}
}

// Each other byte is refused, at each place.
func TestP8_2Form(t *testing.T) {
	for c := 2; c < 256; c++ {
		for n := range 20 {
			for i := range n {
				symbols := []byte(strings.Repeat(listed("10"), 10)[:n])
				symbols[i] = byte(c)
				checkAttach(t, string(symbols), "", api.ErrForm)
			}
		}
	}
}

// A string that is too long and not a symbol list either is refused for its form.
func TestP8_2Long(t *testing.T) {
	for _, n := range []int{20001, 20002, 20032, 1 << 16, 1 << 20} {
		symbols := strings.Repeat("\x00", n)
		checkAttach(t, symbols, "", api.ErrLong)
		checkAttach(t, strings.Repeat("\x01", n), "", api.ErrLong)
		checkAttach(t, symbols[1:]+"\x02", "", api.ErrForm)
		checkAttach(t, "\xff"+symbols[1:], "", api.ErrForm)
	}
	checkAttach(t, strings.Repeat("\x00", 19999)+"\x02", "", api.ErrForm)
}
