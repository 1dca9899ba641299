package marker_test

import (
	"fmt"
	"math"
	"math/rand"
	"slices"
	"strings"
	"testing"

	"perigee/api"
	"perigee/marker"
)

// This file: the definitions of the chapter, with bits as texts of digits and with whole streams, and the streams that the tests use.

// markerDigits contains the bits of 1acffc1d.
const markerDigits = "00011010110011111111110000011101"

// sequenceDigits returns the first n bits of the pseudo-random sequence, n being at least 8.
func sequenceDigits(n int) string {
	b := []byte("11111111")
	for i := 8; i < n; i++ {
		ones := 0
		for _, before := range []int{1, 3, 5, 8} {
			ones += int(b[i-before] - '0')
		}
		b = append(b, "01"[ones%2])
	}
	return string(b)
}

// wantSequence returns the first n bytes of the pseudo-random sequence.
func wantSequence(n int) string {
	digits := sequenceDigits(8*n + 8)
	b := make([]byte, n)
	for i := range b {
		fmt.Sscanf(digits[8*i:8*i+8], "%b", &b[i])
	}
	return string(b)
}

// hard returns the digit of the hard symbol of a value.
func hard(value int) byte {
	if value >= 0 {
		return '1'
	}
	return '0'
}

// wrongAt returns the number of wrong bits at a place of a stream.
func wrongAt(stream []int, place int) int {
	wrong := 0
	for i := range 32 {
		if hard(stream[place+i]) != markerDigits[i] {
			wrong++
		}
	}
	return wrong
}

// wantFound returns the blocks of a stream, and whether a finder that has taken all of it is locked.
func wantFound(stream []int, length int) (blocks []api.Block, locked bool) {
	misses := 0
	for place := 0; place+32 <= len(stream); {
		wrong := wrongAt(stream, place)
		switch {
		case wrong <= 2:
			locked, misses = true, 0
		case locked:
			misses++
			locked = misses < 3
		}
		if !locked {
			place++
			continue
		}
		end := place + 32 + length
		if end > len(stream) {
			break
		}
		blocks = append(blocks, api.Block{At: int64(place), Wrong: wrong, Soft: stream[place+32 : end]})
		place = end
	}
	return blocks, locked
}

// sameBlocks tells whether two lists of blocks are the same.
func sameBlocks(a, b []api.Block) bool {
	return slices.EqualFunc(a, b, func(x, y api.Block) bool {
		return x.At == y.At && x.Wrong == y.Wrong && slices.Equal(x.Soft, y.Soft)
	})
}

// newFinder returns a finder of blocks with a length.
func newFinder(t *testing.T, length int) *marker.Finder {
	t.Helper()
	f, e := marker.New(length)
	if f == nil || e != api.OK {
		t.Fatalf("New(%d): %v, %d", length, f, e)
	}
	return f
}

// fed returns the blocks that a finder returns when it is fed a list.
func fed(t *testing.T, f *marker.Finder, soft []int) []api.Block {
	t.Helper()
	blocks, e := f.Feed(soft)
	if e != api.OK {
		t.Fatalf("Feed of %d values: %d", len(soft), e)
	}
	return blocks
}

// checkStream fails if a finder that is fed a stream one value after the other returns a block in another call than the one that completes it, or is locked at another time than it should be.
func checkStream(t *testing.T, stream []int, length int) {
	t.Helper()
	f := newFinder(t, length)
	known := 0
	for i := range stream {
		got := fed(t, f, stream[i:i+1])
		want, locked := wantFound(stream[:i+1], length)
		if !sameBlocks(got, want[known:]) || f.Locked() != locked || f.At() != int64(i+1) {
			t.Fatalf("length %d, value %d: %v, %v, %d, not %v, %v\n%v", length, i, got, f.Locked(), f.At(), want[known:], locked, stream)
		}
		known = len(want)
	}
}

// soft1 returns a soft value whose hard symbol is a digit.
func soft1(r *rand.Rand, digit byte) int {
	if digit == '1' {
		return r.Intn(8)
	}
	return -1 - r.Intn(8)
}

// anyMarker returns 32 values of which so many are wrong.
func anyMarker(r *rand.Rand, wrong int) []int {
	digits := []byte(markerDigits)
	for _, i := range r.Perm(32)[:wrong] {
		digits[i] ^= 1
	}
	l := make([]int, 32)
	for i := range l {
		l[i] = soft1(r, digits[i])
	}
	return l
}

// anySoft returns n soft values.
func anySoft(r *rand.Rand, n int) []int {
	l := make([]int, n)
	for i := range l {
		l[i] = r.Intn(16) - 8
	}
	return l
}

// anyStream returns a stream for blocks with a length: markers with few and with many wrong bits in their places and elsewhere, and parts that are lost, shortened or put in.
func anyStream(r *rand.Rand, length, parts int) []int {
	var l []int
	for range parts {
		switch r.Intn(12) {
		case 0:
			l = append(l, anySoft(r, r.Intn(40))...)
		case 1:
			l = append(l, anyMarker(r, r.Intn(3))[:r.Intn(33)]...)
		case 2, 3:
			l = append(l, anyMarker(r, 2+r.Intn(3))...)
			l = append(l, anySoft(r, length)...)
		case 4, 5, 6:
			l = append(l, anyMarker(r, 3+r.Intn(30))...)
			l = append(l, anySoft(r, length)...)
		default:
			l = append(l, anyMarker(r, r.Intn(3))...)
			l = append(l, anySoft(r, length)...)
		}
	}
	return l
}

// anySymbols returns a list of n symbols.
func anySymbols(r *rand.Rand, n int) string {
	b := make([]byte, n)
	for i := range b {
		b[i] = byte(r.Intn(2))
	}
	return string(b)
}

// softened returns the soft values of a symbol list: 7 for each 1 and -7 for each 0.
func softened(symbols string) []int {
	l := make([]int, len(symbols))
	for i := range l {
		l[i] = 14*int(symbols[i]) - 7
	}
	return l
}

// attached returns Attach of a symbol list, softened, with some of its symbols inverted.
func attached(t *testing.T, symbols string, inverted ...int) []int {
	t.Helper()
	s, e := marker.Attach(symbols)
	if e != api.OK {
		t.Fatalf("Attach of %d symbols: %d", len(symbols), e)
	}
	l := softened(s)
	for _, i := range inverted {
		l[i] = -l[i]
	}
	return l
}

// anyBytes returns n bytes.
func anyBytes(r *rand.Rand, n int) string {
	b := make([]byte, n)
	r.Read(b)
	return string(b)
}

// listed returns the symbol list whose symbols are the digits of a text.
func listed(text string) string {
	return strings.NewReplacer(" ", "", "0", "\x00", "1", "\x01").Replace(text)
}

// noSoft returns numbers that are not soft values.
func noSoft() []int {
	return []int{-9, 8, -10, 9, 15, 16, -16, 127, 128, 255, 256, -256, 1 << 32, 1<<32 + 7, 1 << 60, math.MinInt, math.MinInt + 8, math.MaxInt}
}

// noLengths returns numbers that no block may have as its length.
func noLengths() []int {
	return []int{0, -1, -2, -20000, 20001, 20002, 1 << 16, 1 << 32, 1<<32 + 1, 1 << 60, -1 << 60, math.MinInt, math.MaxInt}
}
