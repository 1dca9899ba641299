package packet_test

import (
	"fmt"
	"math/rand"
	"strings"
	"testing"

	"perigee/api"
	"perigee/packet"
)

// checkPacket fails if Valid, Put and Get do not agree with the definitions for a packet.
func checkPacket(t *testing.T, p api.Packet) {
	t.Helper()
	valid := wantValid(p)
	if packet.Valid(p) != valid {
		t.Fatalf("Valid(%.99q) = %v", fmt.Sprint(p), !valid)
	}
	s, e := packet.Put(p)
	if !valid {
		if s != "" || e != api.ErrArg {
			t.Fatalf("Put(%.99q) = %.20x, %d", fmt.Sprint(p), s, e)
		}
		return
	}
	if want := wantPut(p); s != want || e != api.OK {
		t.Fatalf("Put(%.99q) = %.20x, %d, not %.20x", fmt.Sprint(p), s, e, want)
	}
	if q, e := packet.Get(s); q != p || e != api.OK {
		t.Fatalf("Get(%.20x) = %.99q, %d, not %.99q", s, fmt.Sprint(q), e, fmt.Sprint(p))
	}
}

func TestP9_1Examples(t *testing.T) {
	p := api.Packet{APID: 5, Flags: api.SfOnly, Count: 1, Data: "A"}
	if s := put(t, p); s != "\x00\x05\xc0\x01\x00\x00\x41" {
		t.Errorf("Put(%v) = %x", p, s)
	}
	p = api.Packet{Command: true, APID: 2046, Flags: api.SfFirst, Count: 16383, Data: strings.Repeat("d", 1024)}
	if s := put(t, p); s != "\x17\xfe\x7f\xff\x03\xff"+p.Data {
		t.Errorf("Put of a long command: %.20x", s)
	}
}

// Every number that a field can have, and those beside them.
func TestP9_1Fields(t *testing.T) {
	base := api.Packet{APID: 1365, Flags: api.SfFirst, Count: 10922, Data: "data"}
	for _, base.Command = range []bool{false, true} {
		for n := -2; n < 2050; n++ {
			p := base
			p.APID = n
			checkPacket(t, p)
		}
		for n := -2; n < 7; n++ {
			p := base
			p.Flags = n
			checkPacket(t, p)
		}
		for n := -2; n < 16387; n++ {
			p := base
			p.Count = n
			checkPacket(t, p)
		}
		for n := range 1028 {
			p := base
			p.Data = strings.Repeat("d", n)
			checkPacket(t, p)
		}
	}
}

func TestP9_1Random(t *testing.T) {
	r := rand.New(rand.NewSource(91))
	for range 5000 {
		p := anyPacket(r)
		checkPacket(t, p)
		checkPacket(t, spoilt(r, p))
	}
}

// Each number that a packet cannot have makes it invalid, whatever the others are.
func TestP9_1Invalid(t *testing.T) {
	r := rand.New(rand.NewSource(910))
	for range 50 {
		base := anyPacket(r)
		for _, n := range noAPIDs() {
			p := base
			p.APID = n
			checkPacket(t, p)
		}
		for _, n := range noFlags() {
			p := base
			p.Flags = n
			checkPacket(t, p)
		}
		for _, n := range noCounts() {
			p := base
			p.Count = n
			checkPacket(t, p)
		}
		for _, n := range noSizes() {
			p := base
			p.Data = strings.Repeat("d", n)
			checkPacket(t, p)
		}
	}
	checkPacket(t, api.Packet{})
	checkPacket(t, api.Packet{Data: "\x00"})
}

// checkBytes fails if Get and Take do not agree with the definitions for a string.
func checkBytes(t *testing.T, b string) {
	t.Helper()
	p, e := packet.Get(b)
	if want, f := wantGet(b); p != want || e != f {
		t.Fatalf("Get of %d bytes, %.20x: %.99q, %d, not %.99q, %d", len(b), b, fmt.Sprint(p), e, fmt.Sprint(want), f)
	}
	p, n, e := packet.Take(b)
	if want, m, f := wantTake(b); p != want || n != m || e != f {
		t.Fatalf("Take of %d bytes, %.20x: %.99q, %d, %d, not %.99q, %d, %d", len(b), b, fmt.Sprint(p), n, e, fmt.Sprint(want), m, f)
	}
}

// A string that is longer or shorter than an encoding is none.
func TestP9_1GetLength(t *testing.T) {
	for _, size := range []int{1, 2, 3, 100, 255, 256, 257, 1023, 1024} {
		s := put(t, api.Packet{Command: true, APID: 77, Flags: api.SfLast, Count: 300, Data: strings.Repeat("\x00", size)})
		for n := range len(s) {
			if p, e := packet.Get(s[:n]); p != (api.Packet{}) || e != api.ErrForm {
				t.Fatalf("Get of the first %d of %d bytes: %v, %d", n, len(s), p, e)
			}
		}
		for _, more := range []string{"\x00", "a", s, strings.Repeat("\x00", 1024)} {
			if p, e := packet.Get(s + more); p != (api.Packet{}) || e != api.ErrForm {
				t.Fatalf("Get of an encoding of %d bytes with %d more: %v, %d", len(s), len(more), p, e)
			}
		}
	}
}

// The bits that are 0 in each header, and the length, in strings that would be encodings otherwise.
func TestP9_1GetForm(t *testing.T) {
	r := rand.New(rand.NewSource(911))
	for range 300 {
		s := put(t, anyPacket(r))
		for i := range 48 {
			b := []byte(s)
			b[i/8] ^= 0x80 >> (i % 8)
			_, e := packet.Get(string(b))
			// The lowest 10 bits of the length say how long the string is.
			if fixed := headPattern[i] != '.' || i >= 38; (e != api.OK) != fixed || fixed && e != api.ErrForm {
				t.Fatalf("Get of %.20x with the bit %d inverted: %d", s, i, e)
			}
			checkBytes(t, string(b))
		}
	}
}

func TestP9_2Examples(t *testing.T) {
	p := api.Packet{APID: 5, Flags: api.SfOnly, Count: 1, Data: "A"}
	for _, c := range []struct {
		b string
		p api.Packet
		n int
		e api.Errno
	}{
		{"\x00\x05\xc0\x01\x00\x00\x41\x42", p, 7, api.OK},
		{"\x00\x05\xc0\x01\x00\x00\x41", p, 7, api.OK},
		{"\x00\x05\xc0", api.Packet{}, 0, api.ErrNone},
		{"\x20", api.Packet{}, 0, api.ErrForm},
		{"", api.Packet{}, 0, api.ErrNone},
		{"\x00\x05\xc0\x01\x00\x00", api.Packet{}, 0, api.ErrNone},
		{"\x00\x05\xc0\x01\x03", api.Packet{}, 0, api.ErrNone},
		{"\x00\x05\xc0\x01\x04", api.Packet{}, 0, api.ErrForm},
		{"\x00\x05\xc0\x01\x04\x00", api.Packet{}, 0, api.ErrForm},
		{"\x00\x05\xc0\x01\xff\xff" + strings.Repeat("a", 65536), api.Packet{}, 0, api.ErrForm},
		{"\x00\x05\xc0\x01\x00\x01\x41", api.Packet{}, 0, api.ErrNone},
	} {
		if p, n, e := packet.Take(c.b); p != c.p || n != c.n || e != c.e {
			t.Errorf("Take(%.20x) = %v, %d, %d, not %v, %d, %d", c.b, p, n, e, c.p, c.n, c.e)
		}
	}
}

// All strings of up to two bytes, all first bytes of long ones, and all lengths.
func TestP9_2All(t *testing.T) {
	checkBytes(t, "")
	rest := strings.Repeat("\x00\x01\x02", 400)
	for n := range 1 << 16 {
		high, low := byte(n>>8), byte(n)
		checkBytes(t, string([]byte{low}))
		checkBytes(t, string([]byte{high, low}))
		checkBytes(t, string([]byte{low})+rest[:20+n>>8])
		checkBytes(t, string([]byte{0x12, 0x34, 0x56, 0x78, high}))
		checkBytes(t, string([]byte{0x12, 0x34, 0x56, 0x78, high, low}))
		checkBytes(t, string([]byte{0x12, 0x34, 0x56, 0x78, high, low, 'a'}))
		checkBytes(t, string([]byte{0x12, 0x34, 0x56, 0x78, high, low})+rest)
	}
}

// All prefixes of encodings, and strings behind them.
func TestP9_2Prefixes(t *testing.T) {
	r := rand.New(rand.NewSource(92))
	for range 200 {
		p := anyPacket(r)
		s := put(t, p)
		for n := range len(s) {
			if q, m, e := packet.Take(s[:n]); q != (api.Packet{}) || m != 0 || e != api.ErrNone {
				t.Fatalf("Take of the first %d of %d bytes: %v, %d, %d", n, len(s), q, m, e)
			}
		}
		for _, n := range []int{0, 1, 2, 6, 7, 1000, 100000} {
			if q, m, e := packet.Take(s + anyBytes(r, n)); q != p || m != len(s) || e != api.OK {
				t.Fatalf("Take of an encoding of %d bytes with %d behind it: %d, %d", len(s), n, m, e)
			}
		}
	}
}

func TestP9_2Random(t *testing.T) {
	r := rand.New(rand.NewSource(920))
	errors := map[api.Errno]int{}
	for range 30000 {
		b := []byte(anyBytes(r, r.Intn(60)))
		for i, mask := range []byte{0x1f, 0xff, 0xff, 0xff, 0x03, 0x3f} {
			if i < len(b) && r.Intn(30) > 0 {
				b[i] &= mask
			}
		}
		if len(b) > 4 && r.Intn(2) == 0 {
			b[4] = 0
		}
		checkBytes(t, string(b))
		_, _, e := packet.Take(string(b))
		errors[e]++
	}
	if errors[api.OK] < 2000 || errors[api.ErrNone] < 2000 || errors[api.ErrForm] < 2000 {
		t.Errorf("only these errors: %v", errors)
	}
}

// A stream of packets is taken apart.
func TestP9_2Stream(t *testing.T) {
	r := rand.New(rand.NewSource(921))
	var packets []api.Packet
	var stream strings.Builder
	for range 300 {
		p := anyPacket(r)
		packets = append(packets, p)
		stream.WriteString(put(t, p))
	}
	b := stream.String()
	for i, want := range packets {
		p, n, e := packet.Take(b)
		if p != want || e != api.OK || n != 6+len(want.Data) {
			t.Fatalf("packet %d: %d, %d", i, n, e)
		}
		b = b[n:]
	}
	if _, _, e := packet.Take(b); b != "" || e != api.ErrNone {
		t.Errorf("behind the packets: %d bytes, %d", len(b), e)
	}
}

// All sizes, and numbers that are none.
func TestP9_3Idle(t *testing.T) {
	if s, e := packet.Idle(7); s != "\x07\xff\xc0\x00\x00\x00\x00" || e != api.OK {
		t.Errorf("Idle(7) = %x, %d", s, e)
	}
	for size := -10; size < 1100; size++ {
		s, e := packet.Idle(size)
		if size < 7 || size > 1030 {
			if s != "" || e != api.ErrArg {
				t.Errorf("Idle(%d) = %.20x, %d", size, s, e)
			}
			continue
		}
		want := api.Packet{APID: 2047, Flags: api.SfOnly, Data: strings.Repeat("\x00", size-6)}
		if s != wantPut(want) || len(s) != size || e != api.OK {
			t.Errorf("Idle(%d) = %.20x, %d", size, s, e)
		}
		if p, f := packet.Get(s); p != want || f != api.OK {
			t.Errorf("Get(Idle(%d)) = %v, %d", size, p, f)
		}
	}
	for _, size := range append(noAPIDs(), noCounts()...) {
		if s, e := packet.Idle(size); s != "" || e != api.ErrArg {
			t.Errorf("Idle(%d) = %.20x, %d", size, s, e)
		}
	}
}
