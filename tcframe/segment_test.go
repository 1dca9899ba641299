package tcframe_test

import (
	"math/rand"
	"slices"
	"strings"
	"testing"

	"perigee/api"
	"perigee/tcframe"
)

// checkSegments fails if Segments does not agree with the definition.
func checkSegments(t *testing.T, packet string, most int) {
	t.Helper()
	l, e := tcframe.Segments(packet, most)
	if want, w := wantSegments(packet, most); !slices.Equal(l, want) || e != w {
		t.Fatalf("Segments of %d bytes, most %d: %.99x, %d, not %.99x, %d", len(packet), most, l, e, want, w)
	}
}

func TestP12_4Examples(t *testing.T) {
	if l := segments(t, "abcde", 2); !slices.Equal(l, []string{"\x40ab", "\x00cd", "\x80e"}) {
		t.Errorf("%q", l)
	}
	if l := segments(t, "a", 2); !slices.Equal(l, []string{"\xc0a"}) {
		t.Errorf("%q", l)
	}
	if l := segments(t, "abcd", 2); !slices.Equal(l, []string{"\x40ab", "\x80cd"}) {
		t.Errorf("%q", l)
	}
	if l := segments(t, "ab", 2); !slices.Equal(l, []string{"\xc0ab"}) {
		t.Errorf("%q", l)
	}
}

// All lengths of packets, with many sizes of parts.
func TestP12_4Lengths(t *testing.T) {
	r := rand.New(rand.NewSource(124))
	for n := range 1050 {
		packet := anyBytes(r, n)
		for _, most := range []int{1, 2, 3, 7, 100, 198, 199, n, n - 1, n + 1, n / 2, (n + 1) / 2, n/2 + 1, r.Intn(202)} {
			checkSegments(t, packet, most)
		}
	}
}

// All sizes of parts, and those beside them.
func TestP12_4Most(t *testing.T) {
	r := rand.New(rand.NewSource(1240))
	for most := -3; most < 300; most++ {
		for _, n := range []int{0, 1, 2, 199, 200, 398, 512, 1029, 1030, 1031} {
			checkSegments(t, anyBytes(r, n), most)
		}
	}
}

// Each argument that is not valid is refused.
func TestP12_4Refused(t *testing.T) {
	for _, n := range []int{0, 1, 5, 1030, 1031, 1032, 2048, 65536, 1 << 20} {
		for _, most := range append(noParts(), 1, 100, 199) {
			l, e := tcframe.Segments(strings.Repeat("p", n), most)
			if valid := n >= 1 && n <= 1030 && most >= 1 && most <= 199; valid != (e == api.OK) || !valid && (len(l) != 0 || e != api.ErrArg) {
				t.Fatalf("Segments of %d bytes, most %d: %d segments, %d", n, most, len(l), e)
			}
		}
	}
}

// A segment is the data of a frame.
func TestP12_4Frames(t *testing.T) {
	r := rand.New(rand.NewSource(1241))
	for _, most := range []int{1, 2, 198, 199} {
		for _, s := range segments(t, anyBytes(r, 1030), most) {
			checkFrame(t, api.TcFrame{Data: s})
		}
	}
}
