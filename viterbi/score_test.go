package viterbi_test

import (
	"math/rand"
	"slices"
	"strings"
	"testing"

	"perigee/api"
	"perigee/viterbi"
)

func checkScore(t *testing.T, soft []int, data string, want int, e api.Errno) {
	t.Helper()
	if sum, f := viterbi.Score(soft, data); sum != want || f != e {
		t.Errorf("Score of %d values, %.20x: %d, %d, not %d, %d", len(soft), data, sum, f, want, e)
	}
}

func TestP7_2ScoreExamples(t *testing.T) {
	checkScore(t, known("\x80"), "\x80", 98, api.OK)
	checkScore(t, known("\x80"), "\x00", 28, api.OK)
	checkScore(t, known(""), "", 42, api.OK)
	checkScore(t, make([]int, 28), "\xff", 0, api.OK)
	checkScore(t, slices.Repeat([]int{-8}, 28), "\x00", -112, api.OK)
	checkScore(t, slices.Repeat([]int{7, -8}, 6), "", -48, api.OK)
	checkScore(t, slices.Repeat([]int{7, -8}, 14), "\x00", -112, api.OK)
	// The symbols of 80 are 10 11 10 10 01 00 10 and seven times 01: each value counts where its symbol is 1.
	checkScore(t, append([]int{1, 7, 2, 3, -4, 7, 5, 7, 7, 6, 7, 7, -1, -8}, slices.Repeat([]int{7, 0}, 7)...), "\x80", 12, api.OK)
}

// All messages of one byte, and messages of many lengths, for all kinds of lists.
func TestP7_2Score(t *testing.T) {
	r := rand.New(rand.NewSource(72))
	for _, values := range kinds() {
		for _, data := range allMessages(1) {
			soft := anyList(r, 28, values)
			checkScore(t, soft, data, wantSum(soft, data), api.OK)
		}
		for _, n := range []int{0, 2, 3, 10, 255, 256, 1099, 1100} {
			data, soft := anyMessage(r, n), anyList(r, 16*n+12, values)
			checkScore(t, soft, data, wantSum(soft, data), api.OK)
		}
	}
}

func TestP7_2ScoreLengths(t *testing.T) {
	for _, n := range []int{1101, 1102, 1 << 16, 1 << 20} {
		for _, k := range []int{0, 12, 17612, 16*n + 12} {
			checkScore(t, make([]int, k), strings.Repeat("\x00", n), 0, api.ErrArg)
		}
	}
	for _, n := range []int{0, 1, 2, 3, 64, 1099, 1100} {
		for _, k := range []int{0, 1, 11, 12, 13, 16 * n, 16*n + 6, 16*n + 10, 16*n + 11, 16*n + 13, 16*n + 14, 16*n + 28, 17612, 17628} {
			if k != 16*n+12 {
				checkScore(t, slices.Repeat([]int{1}, k), strings.Repeat("a", n), 0, api.ErrArg)
			}
		}
	}
}

// A number that is not a soft value is refused at each place, also where the symbol is 0.
func TestP7_2ScoreValues(t *testing.T) {
	for _, data := range []string{"", "\x80", "abc"} {
		for i := range 16*len(data) + 12 {
			soft := slices.Repeat([]int{1}, 16*len(data)+12)
			for value := -8; value <= 7; value++ {
				soft[i] = value
				checkScore(t, soft, data, wantSum(soft, data), api.OK)
			}
			for _, value := range noSoft() {
				soft[i] = value
				checkScore(t, soft, data, 0, api.ErrArg)
			}
		}
	}
}

func checkSoften(t *testing.T, symbols string, want []int, e api.Errno) {
	t.Helper()
	if soft, f := viterbi.Soften(symbols); !slices.Equal(soft, want) || f != e {
		t.Errorf("Soften of %d symbols, %.20x: %d values, %d, not %d, %d", len(symbols), symbols, len(soft), f, len(want), e)
	}
}

func TestP7_2SoftenExamples(t *testing.T) {
	checkSoften(t, "", nil, api.OK)
	checkSoften(t, listed("0"), []int{-7}, api.OK)
	checkSoften(t, listed("1"), []int{7}, api.OK)
	checkSoften(t, listed("01 10 0"), []int{-7, 7, 7, -7, -7}, api.OK)
	checkSoften(t, listed("10 11 10 10 01 00 10")+strings.Repeat(listed("01"), 7), known("\x80"), api.OK)
	checkSoften(t, "\x02", nil, api.ErrForm)
	checkSoften(t, "01", nil, api.ErrForm)
}

// Lists of any length: all of up to ten symbols, and longer ones.
func TestP7_2Soften(t *testing.T) {
	r := rand.New(rand.NewSource(720))
	for n := range 11 {
		for k := range 1 << n {
			symbols, want := make([]byte, n), make([]int, n)
			for i := range n {
				symbols[i] = byte(k >> i & 1)
				want[i] = 14*int(symbols[i]) - 7
			}
			checkSoften(t, string(symbols), want, api.OK)
		}
	}
	for _, n := range []int{17612, 17613, 20000, 20001, 1 << 18} {
		symbols, want := make([]byte, n), make([]int, n)
		for i := range n {
			symbols[i] = byte(r.Intn(2))
			want[i] = 14*int(symbols[i]) - 7
		}
		checkSoften(t, string(symbols), want, api.OK)
	}
}

// Each other byte is refused, at each place.
func TestP7_2SoftenForm(t *testing.T) {
	for c := 2; c < 256; c++ {
		for n := range 20 {
			for i := range n {
				symbols := []byte(strings.Repeat(listed("10"), 10)[:n])
				symbols[i] = byte(c)
				checkSoften(t, string(symbols), nil, api.ErrForm)
			}
		}
	}
	checkSoften(t, strings.Repeat("\x00", 1<<16)+"\xff", nil, api.ErrForm)
}
