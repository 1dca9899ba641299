package marker_test

import (
	"math/rand"
	"slices"
	"strings"
	"testing"

	"perigee/api"
	"perigee/marker"
)

func TestP8_3New(t *testing.T) {
	for _, length := range []int{1, 2, 31, 32, 33, 17612, 19999, 20000} {
		f := newFinder(t, length)
		if f.Locked() || f.At() != 0 {
			t.Errorf("New(%d): %v, %d", length, f.Locked(), f.At())
		}
		if blocks := fed(t, f, nil); len(blocks) != 0 || f.Locked() || f.At() != 0 {
			t.Errorf("New(%d) and Feed of nothing: %v, %v, %d", length, blocks, f.Locked(), f.At())
		}
	}
	for _, length := range noLengths() {
		if f, e := marker.New(length); f != nil || e != api.ErrArg {
			t.Errorf("New(%d): %v, %d", length, f, e)
		}
	}
}

func TestP8_3Example(t *testing.T) {
	stream := slices.Concat([]int{0, 0, 0}, attached(t, listed("1101")), attached(t, listed("0010"), 3, 8, 30))
	want := []api.Block{{At: 3, Wrong: 0, Soft: []int{7, 7, -7, 7}}, {At: 39, Wrong: 3, Soft: []int{-7, -7, 7, -7}}}
	f := newFinder(t, 4)
	if blocks := fed(t, f, stream); !sameBlocks(blocks, want) || !f.Locked() || f.At() != 75 {
		t.Errorf("%v, %v, %d", blocks, f.Locked(), f.At())
	}
	checkStream(t, stream, 4)
}

// checkFirst fails if the finder of a stream that begins with a marker with so many wrong bits does not find it exactly if they are at most 2.
func checkFirst(t *testing.T, stream []int, wrong int) {
	t.Helper()
	f := newFinder(t, 1)
	blocks := fed(t, f, stream)
	if wrong > 2 {
		if len(blocks) != 0 || f.Locked() {
			t.Fatalf("%d wrong bits: %v, %v", wrong, blocks, f.Locked())
		}
	} else if !sameBlocks(blocks, []api.Block{{At: 0, Wrong: wrong, Soft: []int{7}}}) || !f.Locked() {
		t.Fatalf("%d wrong bits: %v, %v", wrong, blocks, f.Locked())
	}
}

// All sets of up to three wrong bits.
func TestP8_3Tolerance(t *testing.T) {
	checkFirst(t, attached(t, "\x01"), 0)
	for a := range 32 {
		checkFirst(t, attached(t, "\x01", a), 1)
		for b := range a {
			checkFirst(t, attached(t, "\x01", a, b), 2)
			for c := range b {
				checkFirst(t, attached(t, "\x01", a, b, c), 3)
			}
		}
	}
}

// The value 0 is the hard symbol 1, and -1 is 0; how great a value is makes no difference.
func TestP8_3Hard(t *testing.T) {
	for value := -8; value <= 7; value++ {
		for i := range 32 {
			stream := attached(t, "\x01", (i+3)%32, (i+9)%32)
			wrong := 2
			if hard(value) != markerDigits[i] {
				wrong = 3
			}
			stream[i] = value
			checkFirst(t, stream, wrong)
		}
	}
	stream := make([]int, 33)
	for i := range 32 {
		if markerDigits[i] == '0' {
			stream[i] = -1
		}
	}
	stream[32] = 7
	checkFirst(t, stream, 0)
}

// While the finder searches, it takes the first place with a marker; a better one behind it is part of the block.
func TestP8_3Search(t *testing.T) {
	r := rand.New(rand.NewSource(83))
	for before := range 100 {
		stream := slices.Concat(slices.Repeat([]int{7}, before), attached(t, listed(markerDigits)+"\x01", 4, 20), anySoft(r, 20))
		blocks := fed(t, newFinder(t, 33), stream)
		want := []api.Block{{At: int64(before), Wrong: 2, Soft: softened(listed(markerDigits) + "\x01")}}
		if !sameBlocks(blocks, want) {
			t.Fatalf("behind %d values 7: %v", before, blocks)
		}
		checkStream(t, stream, 33)
	}
}

// A marker of which the first part is missing is none.
func TestP8_3Cut(t *testing.T) {
	whole := attached(t, listed("10110"))
	for cut := 1; cut <= len(whole); cut++ {
		stream := slices.Concat(whole[cut:], whole, whole)
		blocks := fed(t, newFinder(t, 5), stream)
		if len(blocks) != 2 || blocks[0].At != int64(37-cut) || blocks[1].At != int64(74-cut) {
			t.Fatalf("without the first %d values: %v", cut, blocks)
		}
		checkStream(t, stream, 5)
	}
}

// checkMisses fails if the blocks of markers with so many inverted symbols are not at these places.
func checkMisses(t *testing.T, locked bool, inverted []int, places ...int64) {
	t.Helper()
	var stream []int
	for i, n := range inverted {
		stream = append(stream, attached(t, string([]byte{byte(i % 2), 1, 0}), []int{1, 4, 9, 16, 25}[:n]...)...)
	}
	f := newFinder(t, 3)
	var at []int64
	for _, b := range fed(t, f, stream) {
		at = append(at, b.At/35)
		if b.At%35 != 0 || b.Wrong != inverted[b.At/35] {
			t.Errorf("%v: the block %v", inverted, b)
		}
	}
	if !slices.Equal(at, places) || f.Locked() != locked {
		t.Errorf("%v: blocks at %v, %v, not %v, %v", inverted, at, f.Locked(), places, locked)
	}
	checkStream(t, stream, 3)
}

// Up to two misses in a row are no loss; the block of the third one is not returned, and what follows needs a marker.
func TestP8_3Misses(t *testing.T) {
	checkMisses(t, true, []int{0, 3}, 0, 1)
	checkMisses(t, true, []int{2, 4, 5}, 0, 1, 2)
	checkMisses(t, false, []int{1, 3, 3, 3}, 0, 1, 2)
	checkMisses(t, false, []int{0, 3, 3, 3, 3, 3, 3}, 0, 1, 2)
	checkMisses(t, true, []int{0, 3, 3, 2, 3, 3, 0}, 0, 1, 2, 3, 4, 5, 6)
	checkMisses(t, true, []int{0, 3, 3, 2, 4, 1, 5, 5}, 0, 1, 2, 3, 4, 5, 6, 7)
	checkMisses(t, true, []int{0, 3, 3, 3, 0, 3, 3}, 0, 1, 2, 4, 5, 6)
	checkMisses(t, false, []int{0, 3, 3, 3, 2, 3, 3, 3}, 0, 1, 2, 4, 5, 6)
	checkMisses(t, true, []int{3, 3, 0, 3, 3, 1}, 2, 3, 4, 5)
	checkMisses(t, false, []int{3, 3, 3})
}

// After the third miss the finder searches from the place of that miss: a marker that begins right behind it is found.
func TestP8_3SearchAgain(t *testing.T) {
	for gap := 1; gap < 80; gap++ {
		stream := attached(t, "\x01\x01")
		for range 2 {
			stream = append(stream, slices.Repeat([]int{7}, 34)...)
		}
		stream = slices.Concat(stream, slices.Repeat([]int{7}, gap), attached(t, "\x00\x01"), attached(t, "\x01\x00"))
		f := newFinder(t, 2)
		var at []int64
		for _, b := range fed(t, f, stream) {
			at = append(at, b.At)
		}
		if want := []int64{0, 34, 68, 102 + int64(gap), 136 + int64(gap)}; !slices.Equal(at, want) || !f.Locked() {
			t.Fatalf("with a gap of %d: blocks at %v, not %v", gap, at, want)
		}
		checkStream(t, stream, 2)
	}
}

// While the finder is locked, a marker in another place than the one behind the last block is not looked at.
func TestP8_3Locked(t *testing.T) {
	inside := listed(markerDigits + markerDigits + "01")
	stream := slices.Concat(attached(t, inside), attached(t, inside, 1, 2, 3, 4), attached(t, inside))
	blocks := fed(t, newFinder(t, 66), stream)
	if len(blocks) != 3 || blocks[1].At != 98 || blocks[1].Wrong != 4 || blocks[2].At != 196 {
		t.Errorf("%v", blocks)
	}
	checkStream(t, stream, 66)
	// One value more or less between two blocks, and the next places are not those of the markers.
	for _, extra := range [][]int{{7}, {7, 7, 7}} {
		stream = slices.Concat(attached(t, "\x01"), extra, attached(t, "\x00"), attached(t, "\x01"), attached(t, "\x00"), attached(t, "\x01"))
		checkStream(t, stream, 1)
		stream = slices.Concat(attached(t, "\x01"), attached(t, "\x00")[len(extra):], attached(t, "\x01"), attached(t, "\x00"), attached(t, "\x01"))
		checkStream(t, stream, 1)
	}
}

// Streams of all kinds, for short blocks and for some that are longer than a marker.
func TestP8_3Random(t *testing.T) {
	r := rand.New(rand.NewSource(830))
	for i := range 300 {
		length := 1 + i%50
		checkStream(t, anyStream(r, length, 12), length)
	}
	for range 20 {
		checkStream(t, anySoft(r, 300), 1+r.Intn(3))
	}
}

// The longest blocks, with values of all kinds.
func TestP8_3Long(t *testing.T) {
	r := rand.New(rand.NewSource(831))
	for _, length := range []int{19999, 20000} {
		stream := slices.Concat(anySoft(r, 100), anyMarker(r, 2), anySoft(r, length), anyMarker(r, 20), anySoft(r, length), anyMarker(r, 0), anySoft(r, length-1))
		f := newFinder(t, length)
		want, _ := wantFound(stream, length)
		if blocks := fed(t, f, stream); len(blocks) != 2 || !sameBlocks(blocks, want) || !f.Locked() {
			t.Errorf("length %d: %d blocks", length, len(blocks))
		}
		if blocks := fed(t, f, []int{-8}); len(blocks) != 1 || len(blocks[0].Soft) != length || blocks[0].Soft[length-1] != -8 {
			t.Errorf("length %d: %d blocks with the last value", length, len(blocks))
		}
	}
}

// checkRefused fails if a finder takes something of a list with a number that is not a soft value.
func checkRefused(t *testing.T, f *marker.Finder, list []int) {
	t.Helper()
	at, locked := f.At(), f.Locked()
	if blocks, e := f.Feed(list); len(blocks) != 0 || e != api.ErrArg || f.At() != at || f.Locked() != locked {
		t.Fatalf("Feed(%v): %v, %d, and %v, %d", list, blocks, e, f.Locked(), f.At())
	}
}

// A number that is not a soft value is refused at each place of a list and of a stream, and nothing is taken of the list.
func TestP8_3Refused(t *testing.T) {
	stream := slices.Concat([]int{7, 0}, attached(t, "\x01\x00"), attached(t, "\x01\x01", 5, 6, 7), attached(t, "\x00\x00"))
	for k, bad := range noSoft() {
		f := newFinder(t, 2)
		var blocks []api.Block
		for i, value := range stream {
			list := slices.Clone(stream[i:])
			list[(5*i+k)%len(list)] = bad
			checkRefused(t, f, list)
			checkRefused(t, f, []int{bad})
			checkRefused(t, f, []int{value, bad})
			blocks = append(blocks, fed(t, f, []int{value})...)
		}
		if want, _ := wantFound(stream, 2); len(want) != 3 || !sameBlocks(blocks, want) {
			t.Errorf("with %d in lists that are refused: %v", bad, blocks)
		}
	}
	for value := -8; value <= 7; value++ {
		fed(t, newFinder(t, 1), []int{value})
	}
}

func TestP8_4Locked(t *testing.T) {
	f := newFinder(t, 3)
	var locked []string
	stream := slices.Concat([]int{7}, attached(t, listed("101")), slices.Repeat([]int{7}, 3*35))
	for _, value := range stream {
		fed(t, f, []int{value})
		locked = append(locked, map[bool]string{false: "-", true: "L"}[f.Locked()])
	}
	// It is locked with the last value of the marker, and not any more with that of the third place without one.
	want := strings.Repeat("-", 32) + strings.Repeat("L", 4+35+35+31) + strings.Repeat("-", 4)
	if got := strings.Join(locked, ""); got != want {
		t.Errorf("locked: %s, not %s", got, want)
	}
}

func TestP8_4At(t *testing.T) {
	r := rand.New(rand.NewSource(84))
	f := newFinder(t, 100)
	taken := int64(0)
	for range 2000 {
		list := anySoft(r, r.Intn(300))
		fed(t, f, list)
		taken += int64(len(list))
		if f.At() != taken {
			t.Fatalf("At() = %d, not %d", f.At(), taken)
		}
	}
}

func TestP8_4None(t *testing.T) {
	f := newFinder(t, 1)
	fed(t, f, attached(t, "\x01"))
	double := *f
	for name, other := range map[string]*marker.Finder{"nil": nil, "a zero value": {}, "a copy": &double} {
		for _, list := range [][]int{nil, {}, {1}, {8}, attached(t, "\x01")} {
			if blocks, e := other.Feed(list); len(blocks) != 0 || e != api.ErrNil || other.Locked() || other.At() != 0 {
				t.Errorf("%s, Feed(%v): %v, %d, %v, %d", name, list, blocks, e, other.Locked(), other.At())
			}
		}
	}
	if !f.Locked() || f.At() != 33 {
		t.Errorf("the finder itself: %v, %d", f.Locked(), f.At())
	}
}
