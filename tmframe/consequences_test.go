package tmframe_test

import (
	"fmt"
	"math/rand"
	"strings"
	"testing"

	"perigee/api"
	"perigee/packet"
	"perigee/tmframe"
)

// Get inverts Put, and Put inverts Get: also any bytes that are an encoding.
func TestP10_4Inverse(t *testing.T) {
	r := rand.New(rand.NewSource(104))
	accepted := 0
	for range 5000 {
		f := anyFrame(r)
		if g, e := tmframe.Get(put(t, f)); g != f || e != api.OK {
			t.Fatalf("Get of Put(%.199q): %.199q, %d", fmt.Sprint(f), fmt.Sprint(g), e)
		}
		size := anySize(r)
		b := []byte(anyBytes(r, 10+size))
		for i, mask := range []byte{0x3f, 0xf8, 0xff, 0xff, 0x07, 0xff} {
			b[i] &= mask
		}
		if r.Intn(3) > 0 {
			b[4], b[5] = 0, b[5]%byte(size)
		}
		s := closed(string(b))
		g, e := tmframe.Get(s)
		if e == api.OK {
			accepted++
			if put(t, g) != s {
				t.Fatalf("Put of Get(%x): %x", s, put(t, g))
			}
		}
	}
	if accepted < 3000 {
		t.Errorf("only %d frames accepted", accepted)
	}
}

// inverted returns a string in which the bits of a pattern are inverted, the highest one of them at a place.
func inverted(s string, at int, pattern uint16) string {
	b := []byte(s)
	for i := range 16 {
		if pattern<<i&0x8000 != 0 {
			b[(at+i)/8] ^= 0x80 >> ((at + i) % 8)
		}
	}
	return string(b)
}

// checkInverted fails if a frame with inverted bits is accepted.
func checkInverted(t *testing.T, s string, at int, pattern uint16) {
	t.Helper()
	if f, e := tmframe.Get(inverted(s, at, pattern)); f != (api.TmFrame{}) || e != api.ErrTmSum {
		t.Fatalf("Get of %x with the bits %04x from %d on inverted: %.99q, %d", s, pattern, at, fmt.Sprint(f), e)
	}
}

// Inverted bits within 16 consecutive ones, everywhere: at all places those of some patterns, and all patterns at some places.
func TestP10_4Bursts(t *testing.T) {
	r := rand.New(rand.NewSource(1040))
	for _, size := range []int{32, 33, 117, 200} {
		f := anyFrame(r)
		f.First, f.Data = 7, anyBytes(r, size)
		s := put(t, f)
		last := 8*len(s) - 16
		for at := range last + 1 {
			for _, pattern := range []uint16{0x8000, 0xc000, 0x8001, 0xffff, 0x8810, 0x1021, 1, uint16(r.Intn(65535)) + 1, uint16(r.Intn(65535)) + 1} {
				checkInverted(t, s, at, pattern)
			}
		}
	}
	s := put(t, anyFrame(r))
	for _, at := range []int{0, 37, 8*len(s) - 48 - 5, 8*len(s) - 16 - 9, 8*len(s) - 16} {
		for pattern := 1; pattern < 1<<16; pattern++ {
			checkInverted(t, s, at, uint16(pattern))
		}
	}
}

// received takes apart what fillers return.
type received struct {
	// packets are those that are not idle.
	packets []string
	// part is bytes of a packet whose end has not come.
	part string
	// idle is how many bytes of idle packets have come whole.
	idle int
}

// take takes a field, and fails if the first packet that begins in it does not do so at first.
func (v *received) take(t *testing.T, data string, first int) {
	t.Helper()
	begins := 2047
	all := v.part + data
	at := -len(v.part)
	for {
		if at >= 0 && at < len(data) {
			begins = min(begins, at)
		}
		p, n, e := packet.Take(all)
		if e == api.ErrNone {
			break
		}
		if e != api.OK {
			t.Fatalf("no packet at %d of the field %x: %d", at, data, e)
		}
		if p.APID == 2047 {
			v.idle += n
		} else {
			v.packets = append(v.packets, all[:n])
		}
		all, at = all[n:], at+n
	}
	v.part = all
	if first != begins {
		t.Fatalf("a packet begins at %d and not at %d of %x", begins, first, data)
	}
}

// checkReceived fails if what has come is not, in order, whole packets and the beginning of the next one.
func (v *received) checkReceived(t *testing.T, packets []string, waiting int) {
	t.Helper()
	if len(v.packets) > len(packets) {
		t.Fatalf("%d packets of %d", len(v.packets), len(packets))
	}
	for i, p := range v.packets {
		if p != packets[i] {
			t.Fatalf("packet %d: %.20x, not %.20x", i, p, packets[i])
		}
	}
	left := strings.Join(packets[len(v.packets):], "")
	if waiting == 0 {
		// Only a part of an idle packet may be open.
		if left != "" || len(v.part) > 6 || !strings.HasPrefix(wantIdle(7), v.part) {
			t.Fatalf("nothing waits, but %d bytes have not come, and %x is open", len(left), v.part)
		}
		return
	}
	if len(left) != len(v.part)+waiting || !strings.HasPrefix(left, v.part) {
		t.Fatalf("%d bytes wait, %d bytes have not come as packets, and %x is open", waiting, len(left), v.part)
	}
}

// The packets that were added come out of the fields, in order; each First is right.
func TestP10_5Packets(t *testing.T) {
	r := rand.New(rand.NewSource(105))
	idle := 0
	for i := range 200 {
		f := newFiller(t, anySize(r))
		var packets []string
		var v received
		for range 200 {
			for range r.Intn(2 + i%5) {
				p := sized(t, r, anyLength(r))
				if e := f.Add(p); e == api.OK {
					packets = append(packets, p)
				} else if e != api.ErrFull {
					t.Fatal(e)
				}
			}
			if data, first, ok := f.Next(); ok {
				v.take(t, data, first)
				v.checkReceived(t, packets, f.Waiting())
			}
		}
		for f.Waiting() > 0 {
			data, first, _ := f.Next()
			v.take(t, data, first)
		}
		v.checkReceived(t, packets, 0)
		idle += v.idle
	}
	if idle < 10000 {
		t.Errorf("only %d bytes of idle packets", idle)
	}
}

// Each field takes a waiting byte at least, so that Waiting calls are enough.
func TestP10_5Ends(t *testing.T) {
	r := rand.New(rand.NewSource(1050))
	for i := range 300 {
		size := 32 + i%169
		f := newFiller(t, size)
		add(t, f, sized(t, r, size-1-i%6))
		f.Next()
		for range 1 + r.Intn(5) {
			add(t, f, sized(t, r, anyLength(r)))
		}
		for calls := f.Waiting(); f.Waiting() > 0; calls-- {
			before := f.Waiting()
			if _, _, ok := f.Next(); !ok || calls == 0 || f.Waiting() >= before {
				t.Fatalf("%d bytes waited, then %d", before, f.Waiting())
			}
		}
		checkNothing(t, f)
	}
}
