package viterbi_test

import (
	"math"
	"math/rand"
	"strings"

	"perigee/convol"
)

// This file: the definitions of the chapter, two ways to find the best message, and the lists and messages that the tests use.

// wantSum returns the sum of a message.
func wantSum(soft []int, data string) int {
	symbols, _ := convol.Encode(data)
	sum := 0
	for i, value := range soft {
		if symbols[i] == 1 {
			sum += value
		}
	}
	return sum
}

// allMessages returns the messages of n bytes, the least one first.
func allMessages(n int) []string {
	l := []string{""}
	for range n {
		var longer []string
		for _, data := range l {
			for last := range 256 {
				longer = append(longer, data+string([]byte{byte(last)}))
			}
		}
		l = longer
	}
	return l
}

// bestOf returns the first message of a list with the greatest sum, and the sum.
func bestOf(soft []int, messages []string) (string, int) {
	best, most := "", math.MinInt
	for _, data := range messages {
		if sum := wantSum(soft, data); sum > most {
			best, most = data, sum
		}
	}
	return best, most
}

// path is a message so far, as a text of the digits 0 and 1, and its sum so far, if there is one.
type path struct {
	is     bool
	digits string
	sum    int
}

// bestPath returns the best message of n bytes, and its sum. It keeps, step by step, the best message so far of each state; of two that meet, what follows adds the same to both.
func bestPath(soft []int, n int) (string, int) {
	paths := [64]path{0: {is: true}}
	for i := range len(soft) / 2 {
		digits := "01"
		if i >= 8*n {
			digits = "0"
		}
		paths = extended(paths, digits, soft[2*i], soft[2*i+1])
	}
	return fromDigits(paths[0].digits[:8*n]), paths[0].sum
}

// extended returns the best messages so far after one more step, with one of the digits.
func extended(paths [64]path, digits string, first, second int) [64]path {
	var longer [64]path
	for state, p := range paths {
		for bit := range digits {
			next, a, b := convol.Step(state, bit)
			sum := p.sum + a*first + b*second
			// All messages that are in a state end with the same digit, which is put behind them at the end.
			if old := longer[next]; p.is && (!old.is || sum > old.sum || sum == old.sum && p.digits < old.digits) {
				longer[next] = path{true, p.digits, sum}
			}
		}
	}
	for state := range longer {
		longer[state].digits += string("01"[state/32])
	}
	return longer
}

// fromDigits returns the message whose bits are the digits of a text.
func fromDigits(digits string) string {
	b := make([]byte, len(digits)/8)
	for i, c := range digits {
		if c == '1' {
			b[i/8] |= 128 >> (i % 8)
		}
	}
	return string(b)
}

// anyMessage returns n bytes.
func anyMessage(r *rand.Rand, n int) string {
	b := make([]byte, n)
	r.Read(b)
	return string(b)
}

// anyList returns n numbers, each of them one of values.
func anyList(r *rand.Rand, n int, values []int) []int {
	l := make([]int, n)
	for i := range l {
		l[i] = values[r.Intn(len(values))]
	}
	return l
}

// kinds returns the values of which lists are made: all of them, and few of them, so that many messages have the same sum.
func kinds() [][]int {
	return [][]int{
		{-8, -7, -6, -5, -4, -3, -2, -1, 0, 1, 2, 3, 4, 5, 6, 7},
		{0}, {1}, {-1}, {-8}, {7},
		{-1, 1}, {-1, 0, 1}, {0, 0, 0, 0, 0, 0, 1}, {0, 0, 0, 0, 0, 0, -1}, {-7, 7}, {-8, 7}, {-2, 0, 2, 4},
	}
}

// known returns what is received of a message: 7 for each symbol 1, and -7 for each 0.
func known(data string) []int {
	symbols, _ := convol.Encode(data)
	l := make([]int, len(symbols))
	for i := range l {
		l[i] = 14*int(symbols[i]) - 7
	}
	return l
}

// noisy returns what is received of a message when other numbers are added, and what is too great or too small is cut.
func noisy(r *rand.Rand, data string, noise int) []int {
	l := known(data)
	for i := range l {
		l[i] = max(-8, min(7, l[i]+r.Intn(2*noise+1)-noise))
	}
	return l
}

// inverted returns a list in which the values at some places are replaced by their negatives.
func inverted(l []int, places ...int) []int {
	own := append([]int(nil), l...)
	for _, i := range places {
		own[i] = -l[i]
	}
	return own
}

// noSoft returns numbers that are not soft values.
func noSoft() []int {
	return []int{-9, 8, -10, 9, 15, 16, -16, 127, 128, 255, 256, -256, 1 << 32, 1<<32 + 7, 1 << 60, math.MinInt, math.MinInt + 8, math.MaxInt}
}

// noLengths returns numbers that no message may have as its length.
func noLengths() []int {
	return []int{-1, -2, -1100, 1101, 1102, 2200, 1 << 16, 1 << 32, 1<<32 + 1, 1 << 60, -1 << 60, math.MinInt, math.MaxInt}
}

// listed returns the symbol list whose symbols are the digits of a text.
func listed(text string) string {
	return strings.NewReplacer(" ", "", "0", "\x00", "1", "\x01").Replace(text)
}
