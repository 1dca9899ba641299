package tmframe_test

import (
	"fmt"
	"math/rand"
	"strings"
	"testing"

	"perigee/api"
	"perigee/packet"
	"perigee/tmframe"
)

// All sizes, and numbers that are none.
func TestP10_2New(t *testing.T) {
	check := func(size int) {
		t.Helper()
		f, e := tmframe.New(size)
		if size < 32 || size > 200 {
			if f != nil || e != api.ErrArg {
				t.Errorf("New(%d) = %v, %d", size, f, e)
			}
			return
		}
		if f == nil || e != api.OK {
			t.Fatalf("New(%d) = %v, %d", size, f, e)
		}
		checkNothing(t, f)
	}
	for size := -300; size < 600; size++ {
		check(size)
	}
	for _, size := range noSizes() {
		check(size)
	}
}

// What is no packet, or an idle one, is refused, and nothing changes.
func TestP10_2AddForm(t *testing.T) {
	r := rand.New(rand.NewSource(1021))
	first := sized(t, r, 20)
	f := newFiller(t, 40)
	add(t, f, first)
	check := func(b string) {
		t.Helper()
		if e := f.Add(b); e != api.ErrForm || f.Waiting() != 20 {
			t.Fatalf("Add of %d bytes, %.20x: %d, %d bytes wait", len(b), b, e, f.Waiting())
		}
	}
	for _, n := range []int{7, 8, 100, 262, 263, 1029, 1030} {
		s := sized(t, r, n)
		for k := range n {
			check(s[:k])
			check(s[k+1:] + "\x00")
		}
		for _, more := range []string{"\x00", "a", s, first, strings.Repeat("\x00", 1000)} {
			check(s + more)
		}
		check(first + s)
		for _, bit := range []int{0, 1, 2, 4, 32, 33, 34, 35, 36, 37} {
			b := []byte(s)
			b[bit/8] ^= 0x80 >> (bit % 8)
			check(string(b))
		}
	}
	check(strings.Repeat("\x00", 1<<20))
	checkNext(t, f, first+wantIdle(20), 0)
	checkNothing(t, f)
}

// All idle packets are refused, not only those of packet.Idle.
func TestP10_2AddIdle(t *testing.T) {
	f := newFiller(t, 32)
	for size := 7; size <= 1030; size++ {
		s, _ := packet.Idle(size)
		if e := f.Add(s); e != api.ErrForm {
			t.Fatalf("Add of an idle packet of %d bytes: %d", size, e)
		}
	}
	for flags := range 4 {
		for _, command := range []bool{false, true} {
			for _, count := range []int{0, 1, 16383} {
				s, e := packet.Put(api.Packet{Command: command, APID: 2047, Flags: flags, Count: count, Data: "data"})
				if f := f.Add(s); e != api.OK || f != api.ErrForm {
					t.Fatalf("Add(%x): %d, %d", s, e, f)
				}
			}
		}
	}
	checkNothing(t, f)
}

// All packets that are not idle are accepted.
func TestP10_2AddValid(t *testing.T) {
	r := rand.New(rand.NewSource(1022))
	waiting := 0
	f := newFiller(t, 77)
	for range 2000 {
		n := 7 + r.Intn(1024)
		if waiting+n > 65536 {
			f.Clear()
			waiting = 0
		}
		add(t, f, sized(t, r, n))
		waiting += n
		if f.Waiting() != waiting {
			t.Fatalf("%d bytes wait, not %d", f.Waiting(), waiting)
		}
	}
	for _, apid := range []int{0, 1, 1023, 1024, 2045, 2046} {
		s, e := packet.Put(api.Packet{APID: apid, Data: "data"})
		if f := newFiller(t, 32).Add(s); e != api.OK || f != api.OK {
			t.Errorf("Add of a packet with the APID %d: %d, %d", apid, e, f)
		}
	}
}

// fill adds packets until so many bytes wait.
func fill(t *testing.T, r *rand.Rand, f *tmframe.Filler, total int) []string {
	t.Helper()
	var packets []string
	for f.Waiting() < total {
		n := min(1030, total-f.Waiting())
		// The rest must not be too short for a packet.
		if left := total - f.Waiting() - n; left > 0 && left < 7 {
			n -= 7
		}
		packets = append(packets, sized(t, r, n))
		add(t, f, packets[len(packets)-1])
	}
	return packets
}

// So many bytes may wait as the limit says, and none above that; a form is looked at before.
func TestP10_2AddFull(t *testing.T) {
	r := rand.New(rand.NewSource(1023))
	for _, n := range []int{7, 8, 500, 1030} {
		f := newFiller(t, 100)
		packets := fill(t, r, f, 65536-n)
		for more := n + 1; more <= 1030; more += 101 {
			if e := f.Add(sized(t, r, more)); e != api.ErrFull || f.Waiting() != 65536-n {
				t.Fatalf("Add of %d bytes to %d: %d, %d bytes wait", more, 65536-n, e, f.Waiting())
			}
		}
		last := sized(t, r, n)
		add(t, f, last)
		if f.Waiting() != 65536 {
			t.Fatalf("%d bytes wait", f.Waiting())
		}
		for _, b := range []string{"", "x", wantIdle(7), strings.Repeat("\x00", 70000)} {
			if e := f.Add(b); e != api.ErrForm {
				t.Fatalf("Add of %d bytes to a full filler: %d", len(b), e)
			}
		}
		if e := f.Add(sized(t, r, 7)); e != api.ErrFull {
			t.Fatalf("Add to a full filler: %d", e)
		}
		all := strings.Join(packets, "") + last
		for len(all) >= 100 {
			s, _, ok := f.Next()
			if s != all[:100] || !ok {
				t.Fatalf("with %d bytes left: %x, %v", len(all), s, ok)
			}
			all = all[100:]
		}
		if s, _, ok := f.Next(); s != all+wantIdle(100-len(all)) || !ok {
			t.Fatalf("with %d bytes left: %x, %v", len(all), s, ok)
		}
		checkNothing(t, f)
	}
}

// The idle rest does not count as waiting.
func TestP10_2FullRest(t *testing.T) {
	r := rand.New(rand.NewSource(1024))
	f := newFiller(t, 32)
	add(t, f, sized(t, r, 31))
	f.Next()
	if f.Waiting() != 0 {
		t.Fatalf("%d bytes wait", f.Waiting())
	}
	fill(t, r, f, 65536)
	if e := f.Add(sized(t, r, 7)); e != api.ErrFull || f.Waiting() != 65536 {
		t.Fatalf("Add to a full filler: %d, %d bytes wait", e, f.Waiting())
	}
	// A field with six bytes of the idle packet takes 26 bytes that wait.
	if _, first, _ := f.Next(); first != 6 || f.Waiting() != 65536-26 {
		t.Fatalf("Next: First %d, %d bytes wait", first, f.Waiting())
	}
	add(t, f, sized(t, r, 26))
	if e := f.Add(sized(t, r, 7)); e != api.ErrFull || f.Waiting() != 65536 {
		t.Fatalf("Add to a full filler: %d, %d bytes wait", e, f.Waiting())
	}
}

// Clear drops what waits and the idle rest; the size stays.
func TestP10_2Clear(t *testing.T) {
	r := rand.New(rand.NewSource(1025))
	for size := 32; size <= 200; size += 7 {
		f := newFiller(t, size)
		f.Clear()
		checkNothing(t, f)
		a, b, c := sized(t, r, size-1), sized(t, r, 300), sized(t, r, 9)
		for n := range 5 {
			// With a whole packet, with a part of one, with an idle rest, and with both.
			add(t, f, []string{c, b, a, a, b}[n])
			if n > 0 {
				f.Next()
			}
			if n > 2 {
				add(t, f, b)
			}
			f.Clear()
			checkNothing(t, f)
			add(t, f, c)
			if f.Waiting() != 9 {
				t.Fatalf("%d bytes wait", f.Waiting())
			}
			checkNext(t, f, c+wantIdle(size-9), 0)
			checkNothing(t, f)
		}
		fill(t, r, f, 65536)
		f.Clear()
		fill(t, r, f, 65536)
		f.Clear()
		checkNothing(t, f)
	}
}

func TestP10_3Examples(t *testing.T) {
	r := rand.New(rand.NewSource(1030))
	f := newFiller(t, 32)
	checkNothing(t, f)
	a, b, c, d := sized(t, r, 30), sized(t, r, 9), sized(t, r, 28), sized(t, r, 7)
	add(t, f, a, b)
	if f.Waiting() != 39 {
		t.Fatalf("%d bytes wait", f.Waiting())
	}
	checkNext(t, f, a+b[:2], 0)
	if f.Waiting() != 7 {
		t.Fatalf("%d bytes wait", f.Waiting())
	}
	checkNext(t, f, b[2:]+wantIdle(25), 7)
	checkNothing(t, f)
	add(t, f, c)
	checkNext(t, f, c+wantIdle(7)[:4], 0)
	checkNothing(t, f)
	add(t, f, d)
	checkNext(t, f, wantIdle(7)[4:]+d+wantIdle(22), 3)
	checkNothing(t, f)
}

// All numbers of bytes that may be missing, and the idle rests that follow, which stay while nothing waits.
func TestP10_3Idle(t *testing.T) {
	r := rand.New(rand.NewSource(1031))
	for _, size := range []int{32, 33, 39, 100, 199, 200} {
		for missing := 0; missing <= size-7; missing++ {
			f := newFiller(t, size)
			a, b := sized(t, r, size-missing), sized(t, r, size)
			add(t, f, a)
			if missing == 0 {
				checkNext(t, f, a, 0)
				checkNothing(t, f)
				continue
			}
			idle := wantIdle(max(missing, 7))
			checkNext(t, f, a+idle[:missing], 0)
			checkNothing(t, f)
			checkNothing(t, f)
			rest := idle[missing:]
			add(t, f, b)
			checkNext(t, f, rest+b[:size-len(rest)], len(rest))
			if f.Waiting() != len(rest) {
				t.Fatalf("%d bytes wait, not %d", f.Waiting(), len(rest))
			}
			if len(rest) > 0 {
				checkNext(t, f, b[size-len(rest):]+wantIdle(size-len(rest)), len(rest))
			}
			checkNothing(t, f)
		}
	}
}

// An idle rest and a packet together make a field, or lack a few bytes, or have a few too many.
func TestP10_3Rest(t *testing.T) {
	r := rand.New(rand.NewSource(1032))
	for missing := 1; missing <= 6; missing++ {
		for n := 7; n <= 90; n++ {
			f, m := newFiller(t, 40), &model{size: 40}
			for _, p := range []string{sized(t, r, 40-missing), sized(t, r, n), sized(t, r, n)} {
				add(t, f, p)
				m.add(p)
				for checkSame(t, f, m) {
				}
			}
		}
	}
}

// The first packet begins at any place of a field, or behind it.
func TestP10_3First(t *testing.T) {
	r := rand.New(rand.NewSource(1033))
	for _, size := range []int{32, 57, 200} {
		for n := size + 1; n <= 3*size; n++ {
			f := newFiller(t, size)
			a, b := sized(t, r, n), sized(t, r, 4*size)
			add(t, f, a, b)
			all := a + b
			for from := 0; from+size <= len(all); from += size {
				first := 2047
				if from == 0 {
					first = 0
				} else if n >= from && n < from+size {
					first = n - from
				}
				checkNext(t, f, all[from:from+size], first)
			}
		}
	}
}

// An idle packet is the first one of a field too, also where only its first byte fits.
func TestP10_3FirstIdle(t *testing.T) {
	r := rand.New(rand.NewSource(1034))
	for _, size := range []int{32, 57, 200} {
		for left := 1; left < size; left++ {
			f := newFiller(t, size)
			a := sized(t, r, size+left)
			add(t, f, a)
			checkNext(t, f, a[:size], 0)
			idle := wantIdle(max(size-left, 7))
			checkNext(t, f, a[size:]+idle[:size-left], left)
			checkNothing(t, f)
		}
		f := newFiller(t, size)
		a := sized(t, r, 2*size)
		add(t, f, a)
		checkNext(t, f, a[:size], 0)
		checkNext(t, f, a[size:], api.FpNone)
		checkNothing(t, f)
	}
}

// Calls in any order.
func TestP10_3Random(t *testing.T) {
	r := rand.New(rand.NewSource(1035))
	seen := map[string]int{}
	for i := range 169 * 2 {
		size := 32 + i%169
		f, m := newFiller(t, size), &model{size: size}
		for range 300 {
			switch k := r.Intn(100); {
			case k < 40:
				p := sized(t, r, anyLength(r))
				want := api.OK
				if !m.add(p) {
					want = api.ErrFull
				}
				if e := f.Add(p); e != want {
					t.Fatalf("Add of %d bytes: %d, not %d", len(p), e, want)
				}
			case k < 45:
				if e := f.Add(anyBytes(r, r.Intn(20)) + "x"); e != api.ErrForm {
					t.Fatalf("Add of what is no packet: %d", e)
				}
			case k == 45:
				f.Clear()
				m.clear()
			default:
				seen[fmt.Sprint(checkSame(t, f, m), len(m.waiting) > 0, len(m.rest))]++
			}
			if f.Waiting() != len(m.waiting) {
				t.Fatalf("%d bytes wait, not %d", f.Waiting(), len(m.waiting))
			}
		}
	}
	// With and without a field, bytes that wait behind it, and an idle rest of 0 to 6 bytes.
	if len(seen) != 15 {
		t.Errorf("only these cases: %v", seen)
	}
}
