package channels_test

import (
	"math/rand"
	"strings"
	"testing"

	"perigee/api"
	"perigee/channels"
	"perigee/packet"
)

// This file: P11.3 about packets in fields, and about the part.

// feeder feeds frames of the channel 3 to a demux, which no other channel uses.
type feeder struct {
	d    *channels.Demux
	size int
	// n is the number of frames so far, with those that were lost; skip is how many are lost before the next one.
	n, skip int
	last    string
}

// newFeeder returns a feeder of frames with data fields of a size.
func newFeeder(t *testing.T, size int) *feeder {
	t.Helper()
	return &feeder{d: newDemux(t, 1, size), size: size}
}

// feed feeds the next frame, and fails if other packets arrive, or not so many are broken; bytes that are missing in the field are no beginning of a packet.
func (f *feeder) feed(t *testing.T, data string, first, broken int, packets ...string) {
	t.Helper()
	data += strings.Repeat("?", f.size-len(data))
	f.n += f.skip
	word := uint32(f.n)
	f.last = put(api.TmFrame{Craft: 1, Channel: 3, Master: f.n % 256, Count: f.n % 256, First: first, Data: data, Word: word})
	want := api.Arrival{Channel: 3, Packets: packets, Broken: broken, Word: word}
	if f.n > f.skip {
		want.Lost, want.Missed = f.skip, f.skip
	}
	checkFeed(t, f.d, f.last, want, api.OK)
	f.n, f.skip = f.n+1, 0
}

// stream feeds packets, which together make whole fields, as a mux would do; each one that is not idle has to arrive with its last byte.
func (f *feeder) stream(t *testing.T, packets ...string) {
	t.Helper()
	all := strings.Join(packets, "")
	for from := 0; from < len(all); from += f.size {
		first, place := 2047, 0
		var ended []string
		for _, p := range packets {
			if place >= from && place < from+f.size && first == 2047 {
				first = place - from
			}
			place += len(p)
			if place > from && place <= from+f.size && !strings.HasPrefix(p, "\x07\xff") {
				ended = append(ended, p)
			}
		}
		f.feed(t, all[from:from+f.size], first, 0, ended...)
	}
}

// fit returns an idle packet that makes whole fields of packets.
func (f *feeder) fit(packets ...string) string {
	n := len(strings.Join(packets, ""))
	return idle(7 + (f.size-(n+7)%f.size)%f.size)
}

// Packets that end in the field in which they begin, without and with something behind them.
func TestP11_3Packets(t *testing.T) {
	r := rand.New(rand.NewSource(1135))
	a, b, c := sized(r, 7), sized(r, 9), sized(r, 200)
	f := newFeeder(t, 200)
	f.stream(t, a, b, idle(184))
	f.stream(t, c)
	f.stream(t, idle(200))
	f.stream(t, idle(20), a, idle(173))
	f.feed(t, "xy"+a+b+a+a+idle(168), 2, 0, a, b, a, a)
	f.feed(t, strings.Repeat("x", 193)+a, 193, 0, a)
	// What is not the beginning of a packet is given up.
	f.feed(t, a, 0, 1, a)
	f.feed(t, "", 0, 1)
	f.feed(t, "", 199, 1)
	f.feed(t, "", api.FpNone, 0)
	f.feed(t, "", api.FpIdle, 0)
	// Packets in a field that says that none begins are not looked for.
	f.feed(t, c, api.FpNone, 0)
	f.feed(t, c, api.FpIdle, 0)
	for apid := 2040; apid < 2047; apid++ {
		p, _ := packet.Put(api.Packet{APID: apid, Data: strings.Repeat("\x00", 194)})
		f.feed(t, p, 0, 0, p)
	}
}

// Idle packets of all kinds are not among those that arrive, whole or in parts.
func TestP11_3IdlePackets(t *testing.T) {
	r := rand.New(rand.NewSource(1136))
	f := newFeeder(t, 32)
	p := sized(r, 40)
	for flags := range 4 {
		for _, command := range []bool{false, true} {
			for _, count := range []int{0, 1, 16383} {
				s, _ := packet.Put(api.Packet{Command: command, APID: 2047, Flags: flags, Count: count, Data: anyBytes(r, 3+r.Intn(60))})
				all := s + p + s
				all += f.fit(all)
				for from := 0; from < len(all); from += 32 {
					first := 2047
					for _, place := range []int{len(s) + len(p) + len(s), len(s) + len(p), len(s), 0} {
						if place >= from && place < from+32 {
							first = place - from
						}
					}
					var ended []string
					if end := len(s) + len(p); end > from && end <= from+32 {
						ended = append(ended, p)
					}
					f.feed(t, all[from:from+32], first, 0, ended...)
				}
			}
		}
	}
}

// Packets of all lengths, cut at all places, also within a header.
func TestP11_3Parts(t *testing.T) {
	r := rand.New(rand.NewSource(1137))
	f := newFeeder(t, 32)
	for n := 7; n <= 1030; n++ {
		a, b, c := sized(r, n), sized(r, 7+n%50), sized(r, 7)
		f.stream(t, a, b, c, f.fit(a, b, c))
		d := idle(7 + n%100)
		f.stream(t, d, a, d, b, f.fit(d, a, d, b))
	}
	for size := 32; size <= 200; size++ {
		f := newFeeder(t, size)
		for n := size - 6; n <= size+1; n++ {
			a, b := sized(r, n), sized(r, size)
			f.stream(t, a, b, f.fit(a, b))
		}
	}
}

// The part stays when an idle frame comes, or one of another channel.
func TestP11_3PartStays(t *testing.T) {
	r := rand.New(rand.NewSource(1138))
	f := newFeeder(t, 50)
	p := sized(r, 150)
	for i := range 3 {
		first := 2047
		var packets []string
		if i == 0 {
			first = 0
		}
		if i == 2 {
			packets = []string{p}
		}
		f.feed(t, p[50*i:50*i+50], first, 0, packets...)
		for range 3 {
			f.feed(t, strings.Repeat("U", 50), api.FpIdle, 0)
		}
	}
	d := newDemux(t, 1, 50)
	model := newDemuxModel(1, 50)
	var all [8]string
	for c := range all {
		all[c] = sized(r, 500)
	}
	for i := range 10 {
		for _, c := range r.Perm(8) {
			first := 2047
			if i == 0 {
				first = 0
			}
			a, _ := checkSame(t, d, model, put(api.TmFrame{Craft: 1, Channel: c, Master: r.Intn(256), Count: i, First: first, Data: all[c][50*i : 50*i+50]}))
			if a.Broken != 0 || i == 9 && (len(a.Packets) != 1 || a.Packets[0] != all[c]) {
				t.Fatalf("channel %d: %s", c, shown(a))
			}
		}
	}
}

// A part is given up when frames of the channel are missing, whatever the frame contains, and only then if there is one.
func TestP11_3Lost(t *testing.T) {
	r := rand.New(rand.NewSource(1139))
	for skip := 1; skip < 256; skip++ {
		f := newFeeder(t, 32)
		p, a := sized(r, 64), sized(r, 32)
		lose := func(data string, first, broken int, packets ...string) {
			t.Helper()
			f.feed(t, p[:32], 0, 0)
			f.skip = skip
			f.feed(t, data, first, broken, packets...)
			// There is no part, unless one has begun.
			f.feed(t, p[32:], api.FpNone, 0)
			f.skip = skip
			f.feed(t, p[32:], api.FpNone, 0)
		}
		lose(p[32:], api.FpNone, 1)
		lose("", api.FpIdle, 1)
		lose(a, 0, 1, a)
		lose("", 2, 2)
		lose(p[57:], 7, 2)
		b := sized(r, 12)
		lose(strings.Repeat("x", 20)+b, 20, 1, b)
		f.feed(t, p[:32], 0, 0)
		f.skip = skip
		f.feed(t, "x"+p[:31], 1, 1)
		f.feed(t, p[31:63], api.FpNone, 0)
		f.feed(t, p[63:]+a[:31], 1, 0, p)
		f.feed(t, a[31:]+idle(31), 1, 0, a)
	}
}

// Missing frames of other channels do not matter to a part.
func TestP11_3Missing(t *testing.T) {
	r := rand.New(rand.NewSource(1140))
	d := newDemux(t, 1, 32)
	p := sized(r, 64)
	f := api.TmFrame{Craft: 1, Channel: 6, Master: 7, Count: 255, Data: p[:32]}
	checkFeed(t, d, put(f), api.Arrival{Channel: 6}, api.OK)
	f.Master, f.Count, f.First, f.Data = 100, 0, 2047, p[32:]
	checkFeed(t, d, put(f), api.Arrival{Channel: 6, Missed: 92, Packets: []string{p}}, api.OK)
}

// A part that the bytes before the first packet do not end, or end too early, is given up.
func TestP11_3WrongEnd(t *testing.T) {
	r := rand.New(rand.NewSource(1141))
	a := sized(r, 7)
	for end := 1; end < 25; end++ {
		p := sized(r, 32+end)
		for first := range 26 {
			f := newFeeder(t, 32)
			f.feed(t, p[:32], 0, 0)
			data := (p[32:] + strings.Repeat("x", 32))[:first] + a + idle(25)[:25-first]
			if first == end {
				f.feed(t, data, first, 0, p, a)
			} else {
				f.feed(t, data, first, 1, a)
			}
		}
		// Too early, in a field in which none begins.
		f := newFeeder(t, 32)
		f.feed(t, p[:32], 0, 0)
		f.feed(t, p[32:], api.FpNone, 1)
		f.feed(t, idle(32), api.FpNone, 0)
		// Both the part and what begins in the field.
		f.feed(t, p[:32], 0, 0)
		f.feed(t, p[32:], end+1, 2)
	}
}

// An idle packet whose end does not come is broken, too.
func TestP11_3BrokenIdle(t *testing.T) {
	r := rand.New(rand.NewSource(1142))
	f := newFeeder(t, 32)
	a := sized(r, 32)
	for n := 33; n < 100; n++ {
		f.feed(t, idle(n)[:32], 0, 0)
		f.feed(t, a, 0, 1, a)
		f.feed(t, idle(n)[:32], 0, 0)
		f.skip = 1
		f.feed(t, a, 0, 1, a)
	}
}

// A part that turns out not to be the beginning of a packet, as soon as its header is there, is given up.
func TestP11_3WrongHeader(t *testing.T) {
	for n := 1; n <= 5; n++ {
		for _, head := range []string{"\x00\x05\xc0\x00\x04\x00", "\x00\x05\xc0\x00\xff\xff", "\x17\xff\xff\xff\x04\x00"} {
			f := newFeeder(t, 32)
			// The size of the data is above the limit from its first byte on, unless that byte is 4.
			begin := strings.Repeat("x", 32-n) + head[:n]
			if _, _, e := packet.Take(head[:n]); e == api.ErrForm {
				f.feed(t, begin, 32-n, 1)
				continue
			}
			f.feed(t, begin, 32-n, 0)
			f.feed(t, head[n:], api.FpNone, 1)
			f.feed(t, head[n:], api.FpNone, 0)
		}
	}
	f := newFeeder(t, 32)
	for _, first := range []byte{0x08, 0x18, 0x20, 0x40, 0x80, 0xff} {
		f.feed(t, strings.Repeat("x", 31)+string([]byte{first}), 31, 1)
	}
}
