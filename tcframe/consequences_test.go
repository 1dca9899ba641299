package tcframe_test

import (
	"fmt"
	"math/rand"
	"testing"

	"perigee/api"
	"perigee/tcframe"
)

// Get inverts Put, and Put inverts Get: also any bytes that are an encoding.
func TestP12_6Inverse(t *testing.T) {
	r := rand.New(rand.NewSource(126))
	accepted := 0
	for range 5000 {
		f := anyFrame(r)
		if g, e := tcframe.Get(put(t, f)); g != f || e != api.OK {
			t.Fatalf("Get of Put(%.99q): %.99q, %d", fmt.Sprint(f), fmt.Sprint(g), e)
		}
		b := []byte(anyBytes(r, 5+anySize(r, 200)))
		b[0], b[2], b[3] = b[0]&0x30, b[2]&0x1c, byte(len(b)+1)
		if r.Intn(3) == 0 {
			b[r.Intn(4)] ^= 1 << r.Intn(8)
		}
		s := closed(string(b))
		if g, e := tcframe.Get(s); e == api.OK {
			accepted++
			if put(t, g) != s {
				t.Fatalf("Put of Get(%x): %x", s, put(t, g))
			}
		}
	}
	if accepted < 2000 || accepted > 4500 {
		t.Errorf("%d frames accepted", accepted)
	}
}

// A frame is found at the beginning of a string, whatever follows.
func TestP12_6Front(t *testing.T) {
	r := rand.New(rand.NewSource(1260))
	for range 5000 {
		f := anyFrame(r)
		x := put(t, f)
		for _, more := range []string{"", "\x00", "UUUUUUU", x, anyBytes(r, r.Intn(1000))} {
			if g, n, e := tcframe.Front(x + more); g != f || n != len(x) || e != api.OK {
				t.Fatalf("Front of %x and %d bytes: %.99q, %d, %d", x, len(more), fmt.Sprint(g), n, e)
			}
		}
	}
}

// Frames one behind the other are taken one by one.
func TestP12_6Fronts(t *testing.T) {
	r := rand.New(rand.NewSource(1261))
	var frames []api.TcFrame
	all := ""
	for range 200 {
		f := anyFrame(r)
		frames, all = append(frames, f), all+put(t, f)
	}
	for i, f := range frames {
		g, n, e := tcframe.Front(all)
		if g != f || e != api.OK {
			t.Fatalf("frame %d: %.99q, %d", i, fmt.Sprint(g), e)
		}
		all = all[n:]
	}
	if all != "" {
		t.Errorf("%d bytes are left", len(all))
	}
}

// inverted returns a string in which the bits of a pattern are inverted, the highest one of them at a place, which may be negative if the pattern has no bit before the string.
func inverted(s string, at int, pattern uint16) string {
	b := []byte(s)
	for i := range 16 {
		if pattern<<i&0x8000 != 0 {
			b[(at+i)/8] ^= 0x80 >> ((at + i) % 8)
		}
	}
	return string(b)
}

// checkInverted fails if a frame with inverted bits is accepted.
func checkInverted(t *testing.T, s string, at int, pattern uint16) {
	t.Helper()
	if f, e := tcframe.Get(inverted(s, at, pattern)); f != (api.TcFrame{}) || e != api.ErrTcSum {
		t.Fatalf("Get of %x with the bits %04x from %d on inverted: %.99q, %d", s, pattern, at, fmt.Sprint(f), e)
	}
}

// Inverted bits within 16 consecutive ones, everywhere: at all places those of some patterns, and all patterns at some places; of the shortest frame all patterns at all places.
func TestP12_6Bursts(t *testing.T) {
	r := rand.New(rand.NewSource(1262))
	for _, size := range []int{1, 2, 117, 200} {
		f := anyFrame(r)
		f.Data = anyBytes(r, size)
		s := put(t, f)
		last := 8*len(s) - 16
		for at := range last + 1 {
			for _, pattern := range []uint16{0x8000, 0xc000, 0x8001, 0xffff, 0x8810, 0x1021, 1, uint16(r.Intn(65535)) + 1, uint16(r.Intn(65535)) + 1} {
				checkInverted(t, s, at, pattern)
			}
		}
		if size != 117 {
			continue
		}
		for _, at := range []int{0, 22, last / 2, last - 9, last} {
			for pattern := 1; pattern < 1<<16; pattern++ {
				checkInverted(t, s, at, uint16(pattern))
			}
		}
	}
	s := put(t, api.TcFrame{Craft: 1, Channel: 2, Bypass: true, Seq: 3, Data: "A"})
	for at := range 8*len(s) - 15 {
		for pattern := 1; pattern < 1<<16; pattern++ {
			checkInverted(t, s, at, uint16(pattern))
		}
	}
}

// The segments of a packet yield it with the last one, and nothing before: for a new assembler, and one in any state.
func TestP12_7Packets(t *testing.T) {
	r := rand.New(rand.NewSource(127))
	a := tcframe.New()
	opened := 0
	for i := range 3000 {
		b := tcframe.New()
		packet := anyBytes(r, anySize(r, 1030))
		if i < 1030 {
			packet = anyBytes(r, i+1)
		}
		l := segments(t, packet, anySize(r, 199))
		for k, s := range l {
			want := api.Piece{}
			if k == len(l)-1 {
				want = whole(packet)
			}
			if piece := fed(t, b, s); piece != want {
				t.Fatalf("a new assembler, segment %d of %d: %.99q", k, len(l), fmt.Sprint(piece))
			}
			piece := fed(t, a, s)
			if k == 0 && piece.Broken {
				opened++
				piece.Broken = false
			}
			if piece != want {
				t.Fatalf("segment %d of %d: %.99q", k, len(l), fmt.Sprint(piece))
			}
		}
		// What follows may be anything.
		for range r.Intn(4) {
			fed(t, a, anySegment(r, r.Intn(3)))
			a.Feed(noSegment(r))
		}
	}
	if opened < 300 {
		t.Errorf("only %d messages were open", opened)
	}
}

// What was refused between the segments does not matter.
func TestP12_7Refused(t *testing.T) {
	r := rand.New(rand.NewSource(1270))
	a := tcframe.New()
	for range 300 {
		packet := anyBytes(r, anySize(r, 1030))
		l := segments(t, packet, anySize(r, 199))
		for k, s := range l {
			if piece, e := a.Feed(noSegment(r)); piece != (api.Piece{}) || e != api.ErrForm {
				t.Fatalf("Feed of what is no segment: %v, %d", piece, e)
			}
			if piece := fed(t, a, s); piece.Whole != (k == len(l)-1) || piece.Whole && piece.Message != packet || piece.Broken {
				t.Fatalf("segment %d of %d: %.99q", k, len(l), fmt.Sprint(piece))
			}
		}
	}
}
