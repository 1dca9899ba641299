package channels_test

import (
	"math/rand"
	"strings"
	"testing"

	"perigee/api"
	"perigee/channels"
	"perigee/tmframe"
)

// bare returns a frame of the craft 1 with 32 bytes of data, in which no packet begins.
func bare(channel, master, count int, word uint32) api.TmFrame {
	return api.TmFrame{Craft: 1, Channel: channel, Master: master, Count: count, First: 2047, Data: strings.Repeat("d", 32), Word: word}
}

// inverted returns a string with one bit inverted.
func inverted(s string, at int) string {
	b := []byte(s)
	b[at/8] ^= 0x80 >> (at % 8)
	return string(b)
}

// All crafts and sizes, and numbers that are none.
func TestP11_3NewDemux(t *testing.T) {
	check := func(craft, size int) {
		t.Helper()
		d, e := channels.NewDemux(craft, size)
		if craft < 0 || craft > 255 || size < 32 || size > 200 {
			if d != nil || e != api.ErrArg {
				t.Fatalf("NewDemux(%d, %d): %v, %d", craft, size, d, e)
			}
			return
		}
		if d == nil || e != api.OK {
			t.Fatalf("NewDemux(%d, %d): %v, %d", craft, size, d, e)
		}
		f := bare(3, 200, 100, 77)
		f.Craft, f.Data = craft, strings.Repeat("d", size)
		checkFeed(t, d, put(f), api.Arrival{Channel: 3, Word: 77}, api.OK)
	}
	for n := -300; n < 600; n++ {
		check(n, 32)
		check(n, 200)
		check(0, n)
		check(255, n)
	}
	for _, craft := range append(noBytes(), 0, 255) {
		for _, size := range append(noSizes(), 32, 200) {
			check(craft, size)
		}
	}
}

func TestP11_3Examples(t *testing.T) {
	r := rand.New(rand.NewSource(113))
	m, d := newMux(t, 1, 32, same(0), list{2, 1, 1, 1, 1, 1, 1, 1}), newDemux(t, 1, 32)
	_, s := next(t, m, 9)
	checkFeed(t, d, s, api.Arrival{Channel: 7, Word: 9}, api.OK)
	long, short := sized(r, 70), sized(r, 40)
	add(t, m, 0, long)
	add(t, m, 1, short)
	packets := [6][]string{3: {long}, 4: {short}}
	for i, channel := range [6]int{0, 0, 1, 0, 1, 7} {
		_, s = next(t, m, 0)
		checkFeed(t, d, s, api.Arrival{Channel: channel, Packets: packets[i]}, api.OK)
	}
	checkFeed(t, d, s, api.Arrival{Channel: 7, Doubled: true}, api.OK)
	checkFeed(t, d, s[:len(s)-1], api.Arrival{}, api.ErrForm)
	checkFeed(t, d, inverted(s, 100), api.Arrival{}, api.ErrTmSum)
}

// Frames that are refused, with the error that is named first, change nothing.
func TestP11_3Errors(t *testing.T) {
	r := rand.New(rand.NewSource(1131))
	p := sized(r, 200)
	d := newDemux(t, 5, 100)
	f := api.TmFrame{Craft: 5, Channel: 2, Data: p[:100]}
	checkFeed(t, d, put(f), api.Arrival{Channel: 2}, api.OK)
	other := func(craft, channel, size int) string {
		return put(api.TmFrame{Craft: craft, Channel: channel, Master: 1, Count: 1, First: 2047, Data: strings.Repeat("\x00", size)})
	}
	for channel := range 8 {
		for craft := range 256 {
			if craft != 5 {
				checkFeed(t, d, other(craft, channel, 100), api.Arrival{}, api.ErrArg)
			}
		}
		for size := 32; size <= 200; size++ {
			if size != 100 {
				checkFeed(t, d, other(5, channel, size), api.Arrival{}, api.ErrArg)
			}
		}
		for _, s := range []string{other(4, channel, 100), other(5, channel, 99), other(5, channel, 100)} {
			for i := range 8 * len(s) {
				checkFeed(t, d, inverted(s, i), api.Arrival{}, api.ErrTmSum)
			}
			for n := range 44 {
				checkFeed(t, d, s[:n], api.Arrival{}, api.ErrForm)
			}
			checkFeed(t, d, s[:44], api.Arrival{}, api.ErrTmSum)
			checkFeed(t, d, s+s, api.Arrival{}, api.ErrForm)
		}
	}
	// The frame of the channel 2 is still the last one, and its part goes on.
	checkFeed(t, d, put(f), api.Arrival{Channel: 2, Doubled: true}, api.OK)
	f.Master, f.Count, f.First, f.Data = 1, 1, 2047, p[100:]
	checkFeed(t, d, put(f), api.Arrival{Channel: 2, Packets: []string{p}}, api.OK)
}

// The last frame of its channel once more is doubled, whatever has come in other channels, and changes nothing.
func TestP11_3Doubled(t *testing.T) {
	d := newDemux(t, 1, 32)
	var last [8]string
	for i := range 8 * 300 {
		channel := i % 8
		word := uint32(7 * i)
		last[channel] = put(bare(channel, i%256, i/8%256, word))
		checkFeed(t, d, last[channel], api.Arrival{Channel: channel, Word: word}, api.OK)
		for other, s := range last {
			if s != "" {
				f, _ := tmframe.Get(s)
				checkFeed(t, d, s, api.Arrival{Channel: other, Doubled: true, Word: f.Word}, api.OK)
			}
		}
	}
}

// A doubled frame leaves the part as it is, also where it has data that could go on.
func TestP11_3DoubledPart(t *testing.T) {
	r := rand.New(rand.NewSource(1132))
	f := newFeeder(t, 32)
	p := sized(r, 32*5)
	firsts := []int{0, 2047, 2047, 2047, 2047}
	for i, first := range firsts {
		var packets []string
		if i == 4 {
			packets = append(packets, p)
		}
		f.feed(t, p[32*i:32*i+32], first, 0, packets...)
		for range i % 3 {
			checkFeed(t, f.d, f.last, api.Arrival{Channel: 3, Doubled: true, Word: uint32(i)}, api.OK)
		}
	}
}

// A frame that is not the last one byte by byte is not doubled: neither an older one, nor one with another word, place or data.
func TestP11_3NotDoubled(t *testing.T) {
	f := bare(4, 9, 8, 3)
	for _, change := range []func(*api.TmFrame){
		func(f *api.TmFrame) { f.Word++ },
		func(f *api.TmFrame) { f.First-- },
		func(f *api.TmFrame) { f.Data = f.Data[:31] + "x" },
	} {
		d := newDemux(t, 1, 32)
		checkFeed(t, d, put(f), api.Arrival{Channel: 4, Word: 3}, api.OK)
		g := f
		change(&g)
		checkFeed(t, d, put(g), api.Arrival{Channel: 4, Lost: 255, Missed: 255, Word: g.Word}, api.OK)
		checkFeed(t, d, put(g), api.Arrival{Channel: 4, Doubled: true, Word: g.Word}, api.OK)
		// The first one is older now.
		checkFeed(t, d, put(f), api.Arrival{Channel: 4, Lost: 255, Missed: 255, Word: 3}, api.OK)
	}
	d := newDemux(t, 1, 32)
	checkFeed(t, d, put(bare(4, 9, 8, 0)), api.Arrival{Channel: 4}, api.OK)
	checkFeed(t, d, put(bare(4, 9, 7, 0)), api.Arrival{Channel: 4, Lost: 254, Missed: 255}, api.OK)
	checkFeed(t, d, put(bare(4, 8, 7, 0)), api.Arrival{Channel: 4, Lost: 255, Missed: 254}, api.OK)
	checkFeed(t, d, put(bare(5, 8, 7, 0)), api.Arrival{Channel: 5, Missed: 255}, api.OK)
}

// All differences of counts, from all counts.
func TestP11_3Missed(t *testing.T) {
	between := func(before, count int) int {
		n := 0
		for before = (before + 1) % 256; before != count; before = (before + 1) % 256 {
			n++
		}
		return n
	}
	for before := range 256 {
		for count := range 256 {
			d := newDemux(t, 1, 32)
			checkFeed(t, d, put(bare(0, before, 255-count, 0)), api.Arrival{}, api.OK)
			want := api.Arrival{Missed: between(before, count), Lost: between(255-count, 255-before), Word: 1}
			checkFeed(t, d, put(bare(0, count, 255-before, 1)), want, api.OK)
		}
	}
}

// The master count is that of the last frame of any channel, the count that of the last one of the channel; the first ones miss nothing.
func TestP11_3Counts(t *testing.T) {
	r := rand.New(rand.NewSource(1133))
	for range 50 {
		d := newDemux(t, 1, 32)
		master, counts := -1, same(-1)
		for i := range 200 {
			c, n, k := r.Intn(8), r.Intn(256), r.Intn(256)
			want := api.Arrival{Channel: c, Word: uint32(i)}
			if master >= 0 {
				want.Missed = (n + 511 - master) % 256
			}
			if counts[c] >= 0 {
				want.Lost = (k + 511 - counts[c]) % 256
			}
			checkFeed(t, d, put(bare(c, n, k, want.Word)), want, api.OK)
			master, counts[c] = n, k
		}
	}
}

// Calls in any order, with frames that a mux made and frames that none would make.
func TestP11_3Random(t *testing.T) {
	r := rand.New(rand.NewSource(1134))
	seen := map[string]int{}
	for range 300 {
		size := anySize(r)
		d, model := newDemux(t, 1, size), newDemuxModel(1, size)
		parts := map[int]string{}
		f := api.TmFrame{Craft: 1}
		for range 200 {
			f.Channel = r.Intn(2)
			f.Data, f.First, parts[f.Channel] = anyField(r, size, parts[f.Channel])
			f.Count += []int{1, 1, 1, 1, 1, 1, 1, 0, 2, 255}[r.Intn(10)]
			f.Master, f.Count, f.Word = r.Intn(256), f.Count%256, r.Uint32()
			f.Craft = 1 + b2i(r.Intn(50) == 0)
			s := put(f)
			for range 1 + r.Intn(5)/4 {
				if r.Intn(50) == 0 {
					s = inverted(s, r.Intn(8*len(s)))
				}
				a, e := checkSame(t, d, model, s)
				note(seen, a, e, f.First)
			}
		}
	}
	for _, what := range []string{"argument", "sum", "doubled", "lost", "broken 0", "broken 1", "broken 2", "packets 0", "packets 1", "packets 2", "idle", "none"} {
		if seen[what] < 100 {
			t.Errorf("only these cases: %v", seen)
		}
	}
}

// b2i returns 1 for true.
func b2i(b bool) int {
	if b {
		return 1
	}
	return 0
}

// note counts what happened.
func note(seen map[string]int, a api.Arrival, e api.Errno, first int) {
	if e == api.ErrArg {
		seen["argument"]++
	}
	if e == api.ErrTmSum {
		seen["sum"]++
	}
	if a.Doubled {
		seen["doubled"]++
	} else if e == api.OK {
		seen["broken "+string(rune('0'+a.Broken))]++
		seen["packets "+string(rune('0'+min(9, len(a.Packets))))]++
	}
	if a.Lost > 0 {
		seen["lost"]++
	}
	if first == 2046 {
		seen["idle"]++
	}
	if first == 2047 {
		seen["none"]++
	}
}

// anyField returns a data field that begins with what is left of the one before, mostly, and what is left of it; sometimes with a wrong place of the first packet.
func anyField(r *rand.Rand, size int, left string) (data string, first int, rest string) {
	first = len(left)
	if r.Intn(15) == 0 {
		// Another packet's end, which may be too short or too long.
		left = anyBytes(r, r.Intn(2*size))
		first = len(left)
	}
	data = left
	for len(data) < size {
		switch r.Intn(20) {
		case 0:
			data += anyBytes(r, 1+r.Intn(30))
		case 1:
			data += "\x00\x05\xc0\x00" + string([]byte{byte(r.Intn(6)), byte(r.Intn(256))})
		case 2, 3:
			data += idle(7 + r.Intn(30))
		default:
			data += sized(r, anyLength(r))
		}
	}
	data, rest = data[:size], data[size:]
	if first >= size {
		first = 2047
	}
	switch r.Intn(30) {
	case 0:
		first = r.Intn(size)
	case 1:
		first = 2047
	case 2:
		first, rest = 2046, left
	}
	return data, first, rest
}
