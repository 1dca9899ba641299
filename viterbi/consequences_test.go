package viterbi_test

import (
	"math/rand"
	"testing"

	"perigee/api"
	"perigee/convol"
	"perigee/viterbi"
)

// checkGreatest fails if one of the messages has a greater sum than the one that Decode returns, or if this one has another sum by Score.
func checkGreatest(t *testing.T, soft []int, n int, messages []string) {
	t.Helper()
	best, most, e := viterbi.Decode(soft, n)
	if e != api.OK || len(best) != n {
		t.Fatalf("Decode of %d values, %d: %d bytes, %d", len(soft), n, len(best), e)
	}
	if sum, f := viterbi.Score(soft, best); sum != most || f != api.OK {
		t.Fatalf("Decode of %d values, %d: %.20x with the sum %d, by Score %d, %d", len(soft), n, best, most, sum, f)
	}
	for _, data := range messages {
		if sum, f := viterbi.Score(soft, data); sum > most || f != api.OK {
			t.Fatalf("Decode of %d values, %d: %.20x with the sum %d, but %.20x has %d, %d", len(soft), n, best, most, data, sum, f)
		}
	}
}

// near returns a message that differs from another one in a few bits next to each other.
func near(r *rand.Rand, data string) string {
	b := []byte(data)
	first := r.Intn(8 * len(b))
	for i := first; i < min(first+10, 8*len(b)); i++ {
		if i == first || r.Intn(2) == 0 {
			b[i/8] ^= 128 >> (i % 8)
		}
	}
	return string(b)
}

func TestP7_3All(t *testing.T) {
	r := rand.New(rand.NewSource(73))
	messages := allMessages(1)
	for _, values := range kinds() {
		checkGreatest(t, anyList(r, 12, values), 0, []string{""})
		for range 40 {
			checkGreatest(t, anyList(r, 28, values), 1, messages)
		}
	}
}

// The message that was sent, others that differ in a few bits from it or from the one that was found, and any others.
func TestP7_3Random(t *testing.T) {
	r := rand.New(rand.NewSource(731))
	for range 200 {
		n := 1 + r.Intn(60)
		sent := anyMessage(r, n)
		soft := noisy(r, sent, 15)
		found, _, _ := viterbi.Decode(soft, n)
		messages := []string{sent}
		for range 100 {
			messages = append(messages, near(r, sent), near(r, found), anyMessage(r, n))
		}
		checkGreatest(t, soft, n, messages)
	}
	for _, n := range []int{1099, 1100} {
		sent := anyMessage(r, n)
		checkGreatest(t, noisy(r, sent, 15), n, []string{sent, near(r, sent), anyMessage(r, n)})
	}
}

// checkCorrects fails if Decode does not find a message when symbols at some places are inverted.
func checkCorrects(t *testing.T, data string, soft []int, places ...int) {
	t.Helper()
	if found, _, e := viterbi.Decode(inverted(soft, places...), len(data)); found != data || e != api.OK {
		t.Fatalf("%.20x with %v inverted: %.20x, %d", data, places, found, e)
	}
}

// softened returns what Soften makes of the symbols of a message.
func softened(t *testing.T, data string) []int {
	t.Helper()
	symbols, e := convol.Encode(data)
	soft, f := viterbi.Soften(symbols)
	if e != api.OK || f != api.OK {
		t.Fatalf("the symbols of %.20x: %d, %d", data, e, f)
	}
	return soft
}

// All sets of up to four symbols of messages of no byte and of one.
func TestP7_4All(t *testing.T) {
	for _, data := range []string{"", "\x00", "\x9c"} {
		soft := softened(t, data)
		checkCorrects(t, data, soft)
		for a := range soft {
			checkCorrects(t, data, soft, a)
			for b := range a {
				checkCorrects(t, data, soft, a, b)
				for c := range b {
					checkCorrects(t, data, soft, a, b, c)
					for d := range c {
						checkCorrects(t, data, soft, a, b, c, d)
					}
				}
			}
		}
	}
}

// Four symbols near each other, and anywhere, of longer messages.
func TestP7_4Random(t *testing.T) {
	r := rand.New(rand.NewSource(74))
	for range 1000 {
		data := anyMessage(r, 1+r.Intn(30))
		soft := softened(t, data)
		width := min(len(soft), 4+r.Intn(30))
		first := r.Intn(len(soft) - width + 1)
		checkCorrects(t, data, soft, offset(first, r.Perm(width)[:4])...)
		checkCorrects(t, data, soft, r.Perm(len(soft))[:4]...)
	}
	for _, n := range []int{1099, 1100} {
		data := anyMessage(r, n)
		soft := softened(t, data)
		checkCorrects(t, data, soft, 0, 1, 2, 3)
		checkCorrects(t, data, soft, offset(len(soft)-4, []int{0, 1, 2, 3})...)
		checkCorrects(t, data, soft, r.Perm(len(soft))[:4]...)
	}
}

// offset returns places that are so many symbols further on.
func offset(first int, places []int) []int {
	var l []int
	for _, i := range places {
		l = append(l, first+i)
	}
	return l
}
