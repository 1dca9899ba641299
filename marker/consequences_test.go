package marker_test

import (
	"math/rand"
	"slices"
	"testing"

	"perigee/api"
	"perigee/marker"
)

// divided returns the blocks of a stream that a finder is fed in parts of up to so many values.
func divided(t *testing.T, r *rand.Rand, stream []int, length, most int) []api.Block {
	t.Helper()
	f := newFinder(t, length)
	var blocks []api.Block
	for len(stream) > 0 {
		n := min(len(stream), r.Intn(most+1))
		blocks = append(blocks, fed(t, f, stream[:n])...)
		stream = stream[n:]
	}
	return blocks
}

func TestP8_5Divided(t *testing.T) {
	r := rand.New(rand.NewSource(85))
	for i := range 300 {
		length := 1 + i%70
		stream := anyStream(r, length, 40)
		whole := fed(t, newFinder(t, length), stream)
		if want, _ := wantFound(stream, length); !sameBlocks(whole, want) {
			t.Fatalf("length %d: %d blocks, not %d", length, len(whole), len(want))
		}
		for _, most := range []int{1, 2, 31, 32, 33, 100, 1000} {
			if blocks := divided(t, r, stream, length, most); !sameBlocks(blocks, whole) {
				t.Fatalf("length %d, in parts of up to %d: %d blocks, not %d", length, most, len(blocks), len(whole))
			}
		}
	}
}

// Each block consists of the values 32 places behind its At, and the next one is behind them.
func TestP8_5Places(t *testing.T) {
	r := rand.New(rand.NewSource(850))
	for i := range 300 {
		length := 1 + i%70
		stream := anyStream(r, length, 40)
		free := int64(0)
		for _, b := range divided(t, r, stream, length, 200) {
			from := b.At + 32
			if b.At < free || !slices.Equal(b.Soft, stream[from:from+int64(length)]) || b.Wrong != wrongAt(stream, int(b.At)) {
				t.Fatalf("length %d: the block %v behind the place %d", length, b, free)
			}
			free = from + int64(length)
		}
	}
}

// spoiled returns a stream of Attach of lists of symbols, softened, with up to two symbols of each marker inverted. If every is not 0, the first ones of every so many markers, up to two and not all, are replaced by anything, but never the first one of the stream.
func spoiled(t *testing.T, r *rand.Rand, lists []string, every int) []int {
	t.Helper()
	var stream []int
	for i, symbols := range lists {
		values := attached(t, symbols, r.Perm(32)[:r.Intn(3)]...)
		if i > 0 && every > 0 && i%every < 2 && i%every < every-1 {
			copy(values, anySoft(r, 32))
		}
		stream = append(stream, values...)
	}
	return stream
}

func checkLists(t *testing.T, stream []int, lists []string) {
	t.Helper()
	f := newFinder(t, len(lists[0]))
	blocks := fed(t, f, stream)
	if len(blocks) != len(lists) || !f.Locked() {
		t.Fatalf("%d blocks of %d symbols, not %d", len(blocks), len(lists[0]), len(lists))
	}
	for i, b := range blocks {
		if b.At != int64(i*(32+len(lists[0]))) || !slices.Equal(b.Soft, softened(lists[i])) {
			t.Fatalf("of %d symbols, the block %d: %v", len(lists[0]), i, b)
		}
	}
}

func TestP8_6Blocks(t *testing.T) {
	r := rand.New(rand.NewSource(86))
	for i := range 200 {
		length := 1 + i
		var lists []string
		for range 1 + r.Intn(30) {
			lists = append(lists, anySymbols(r, length))
		}
		for _, every := range []int{0, 2, 3, 5, 10} {
			checkLists(t, spoiled(t, r, lists, every), lists)
		}
	}
	lists := []string{anySymbols(r, 20000), anySymbols(r, 20000), anySymbols(r, 20000), anySymbols(r, 20000)}
	checkLists(t, spoiled(t, r, lists, 3), lists)
}

// Lists that consist of markers make no difference.
func TestP8_6Markers(t *testing.T) {
	r := rand.New(rand.NewSource(860))
	for n := 1; n < 100; n++ {
		symbols := (listed(markerDigits) + listed(markerDigits) + listed(markerDigits) + listed(markerDigits))[:n]
		lists := slices.Repeat([]string{symbols}, 12)
		checkLists(t, spoiled(t, r, lists, 0), lists)
		checkLists(t, spoiled(t, r, lists, 3), lists)
	}
}

// A marker all of whose symbols are inverted is spoiled, as are two of them.
func TestP8_6Inverted(t *testing.T) {
	all := make([]int, 32)
	for i := range all {
		all[i] = i
	}
	lists := []string{listed("0101"), listed("1111"), listed("0000"), listed("1010")}
	stream := slices.Concat(attached(t, lists[0], 0, 31), attached(t, lists[1], all...), attached(t, lists[2], all...), attached(t, lists[3], 15))
	checkLists(t, stream, lists)
}

func TestP8_7Twice(t *testing.T) {
	r := rand.New(rand.NewSource(87))
	for _, n := range []int{0, 1, 2, 3, 31, 254, 255, 256, 1000, 65535, 65536} {
		for range 20 {
			b := anyBytes(r, n)
			once, e := marker.Mix(b)
			twice, f := marker.Mix(once)
			if twice != b || e != api.OK || f != api.OK || n > 3 && once == b {
				t.Fatalf("Mix of Mix of %d bytes, %.20x: %.20x, %d, %d", n, b, twice, e, f)
			}
		}
	}
}

// bitOf returns a bit of a string, the first one being the highest one of the first byte.
func bitOf(s string, i int) byte { return s[i/8] >> (7 - i%8) & 1 }

// The bits repeat after 255 of them, and not after fewer.
func TestP8_7Period(t *testing.T) {
	s, e := marker.Sequence(65536)
	if len(s) != 65536 || e != api.OK {
		t.Fatalf("Sequence(65536): %d bytes, %d", len(s), e)
	}
	for period := 1; period <= 255; period++ {
		same := true
		for i := range 8*len(s) - period {
			if bitOf(s, i) != bitOf(s, i+period) {
				same = false
				break
			}
		}
		if same != (period == 255) {
			t.Errorf("the bits repeat after %d of them: %v", period, same)
		}
	}
}
