package packet_test

import (
	"fmt"
	"math/rand"
	"slices"
	"strings"
	"testing"

	"perigee/api"
	"perigee/packet"
)

// Get inverts Put, and Put inverts Get: any bytes that are an encoding.
func TestP9_6Inverse(t *testing.T) {
	r := rand.New(rand.NewSource(96))
	for range 5000 {
		p := anyPacket(r)
		if q, e := packet.Get(put(t, p)); q != p || e != api.OK {
			t.Fatalf("Get of Put(%.99q): %.99q, %d", fmt.Sprint(p), fmt.Sprint(q), e)
		}
		size := anySize(r)
		b := []byte(anyBytes(r, 6+size))
		b[0], b[4], b[5] = b[0]&0x17, byte((size-1)>>8), byte(size-1)
		p, e := packet.Get(string(b))
		if e != api.OK || !packet.Valid(p) || put(t, p) != string(b) {
			t.Fatalf("Get(%.20x): %.99q, %d", b, fmt.Sprint(p), e)
		}
	}
}

// No encoding is a proper prefix of another one: what begins with one and goes on is none.
func TestP9_6Prefix(t *testing.T) {
	r := rand.New(rand.NewSource(960))
	for range 300 {
		s := put(t, anyPacket(r))
		longer := s
		for len(longer) < 1040 {
			longer += anyBytes(r, 1+r.Intn(9))
			if p, e := packet.Get(longer); e != api.ErrForm {
				t.Fatalf("an encoding of %d bytes begins with one of %d bytes: %.99q, %d", len(longer), len(s), fmt.Sprint(p), e)
			}
		}
	}
}

// completed returns a string with which an encoding begins, with bytes 0 behind it that make it one.
func completed(b string) string {
	for len(b) < 6 {
		b += "\x00"
	}
	return b + strings.Repeat("\x00", max(0, 7+int(b[4])*256+int(b[5])-len(b)))
}

// What Take says of a string stays so for longer ones: a packet is the same one, and what is none never becomes one. What may become one does so with the right bytes.
func TestP9_6Take(t *testing.T) {
	r := rand.New(rand.NewSource(961))
	kinds := map[api.Errno]int{}
	for range 20000 {
		b := []byte(anyBytes(r, r.Intn(20)))
		for i, mask := range []byte{0x17, 0xff, 0xff, 0xff, 0x03, 0xff} {
			if i < len(b) && r.Intn(8) > 0 {
				b[i] &= mask
			}
		}
		if len(b) > 5 && r.Intn(2) == 0 {
			b[4], b[5] = 0, b[5]%16
		}
		p, n, e := packet.Take(string(b))
		kinds[e]++
		if e == api.ErrNone {
			whole := completed(string(b))
			if q, m, f := packet.Take(whole); m != len(whole) || f != api.OK || !packet.Valid(q) {
				t.Fatalf("Take(%x) is ErrNone, but with bytes 0 it is %v, %d, %d", b, q, m, f)
			}
			continue
		}
		for range 5 {
			b = append(b, anyBytes(r, 1+r.Intn(300))...)
			if q, m, f := packet.Take(string(b)); q != p || m != n || f != e {
				t.Fatalf("Take(%.20x) = %v, %d, %d, and with more bytes %v, %d, %d", b, p, n, e, q, m, f)
			}
		}
	}
	if len(kinds) != 3 || kinds[api.OK] < 500 || kinds[api.ErrNone] < 500 || kinds[api.ErrForm] < 500 {
		t.Errorf("only these results: %v", kinds)
	}
}

// checkMessage fails if the packets of a message, with others in between, do not bring it.
func checkMessage(t *testing.T, r *rand.Rand, j *packet.Joiner, packets []api.Packet, message string) {
	t.Helper()
	for i, p := range packets {
		for range r.Intn(3) {
			other := anyPacket(r)
			other.Data = other.Data[:1]
			if other.APID != p.APID {
				fed(t, j, other)
			}
		}
		want := api.Piece{}
		if i == len(packets)-1 {
			want = whole(message)
		}
		if piece := fed(t, j, p); piece != want {
			t.Fatalf("packet %d of %d: %.99q", i, len(packets), fmt.Sprint(piece))
		}
	}
}

func TestP9_7Joined(t *testing.T) {
	r := rand.New(rand.NewSource(97))
	for _, n := range []int{1, 2, 3, 100, 1023, 1024, 1025, 5000, 16383, 16384} {
		for _, most := range []int{1, 2, 99, 1000, 1023, 1024} {
			for _, count := range []int{0, r.Intn(16384), 16383} {
				message := anyBytes(r, n)
				apid := r.Intn(2047)
				checkMessage(t, r, packet.New(), split(t, apid, count, message, most), message)
			}
		}
	}
	for range 1000 {
		message := anyBytes(r, 1+r.Intn(200))
		packets, e := packet.Split(r.Intn(2) == 0, r.Intn(2047), r.Intn(16384), message, 1+r.Intn(100))
		if e != api.OK {
			t.Fatal(e)
		}
		checkMessage(t, r, packet.New(), packets, message)
	}
}

// sent is messages with the packets of each of them.
type sent struct {
	messages []string
	packets  [][]api.Packet
}

// anySent returns messages of an APID, with consecutive counts.
func anySent(t *testing.T, r *rand.Rand, apid, messages int) sent {
	t.Helper()
	var s sent
	count := r.Intn(16384)
	for range messages {
		message := anyBytes(r, 1+r.Intn(60))
		packets := split(t, apid, count, message, 1+r.Intn(30))
		s.messages = append(s.messages, message)
		s.packets = append(s.packets, packets)
		count = (count + len(packets)) % 16384
	}
	return s
}

// checkLost fails if what a joiner brings, when each packet is left out for which lost says so, is not the messages none of whose packets were left out.
func checkLost(t *testing.T, s sent, lost func() bool) {
	t.Helper()
	j := packet.New()
	var got, want []string
	for i, packets := range s.packets {
		complete := true
		for _, p := range packets {
			if lost() {
				complete = false
				continue
			}
			if piece := fed(t, j, p); piece.Whole {
				got = append(got, piece.Message)
			}
		}
		if complete {
			want = append(want, s.messages[i])
		}
	}
	if !slices.Equal(got, want) {
		t.Fatalf("%d messages, not %d", len(got), len(want))
	}
}

func TestP9_8Lost(t *testing.T) {
	r := rand.New(rand.NewSource(98))
	for i := range 300 {
		s := anySent(t, r, r.Intn(2047), 40)
		checkLost(t, s, func() bool { return r.Intn(100) < i/3 })
	}
	s := anySent(t, r, 1, 5000)
	checkLost(t, s, func() bool { return r.Intn(50) == 0 })
}

// Many packets are left out in a row, up to 16383.
func TestP9_8Rows(t *testing.T) {
	var s sent
	for i := range 8000 {
		s.messages = append(s.messages, "abcde")
		s.packets = append(s.packets, split(t, 4, 5*i%16384, "abcde", 1))
	}
	for _, row := range []int{1, 4, 5, 6, 255, 256, 1000, 16381, 16382, 16383} {
		for first := range 7 {
			place := -1
			checkLost(t, s, func() bool {
				place++
				return place > first && place <= first+row || place > first+row+3 && place <= first+2*row+3
			})
		}
	}
}
