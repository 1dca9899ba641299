package tmframe_test

import (
	"fmt"
	"math/rand"
	"strings"
	"testing"

	"perigee/api"
	"perigee/tmframe"
)

// checkFrame fails if Put and Get do not agree with the definitions for a frame.
func checkFrame(t *testing.T, f api.TmFrame) {
	t.Helper()
	s, e := tmframe.Put(f)
	if !wantValid(f) {
		if s != "" || e != api.ErrArg {
			t.Fatalf("Put(%.199q) = %.20x, %d", fmt.Sprint(f), s, e)
		}
		return
	}
	if want := wantPut(f); s != want || e != api.OK {
		t.Fatalf("Put(%.199q) = %x, %d, not %x", fmt.Sprint(f), s, e, want)
	}
	if g, e := tmframe.Get(s); g != f || e != api.OK {
		t.Fatalf("Get(%x) = %.199q, %d, not %.199q", s, fmt.Sprint(g), e, fmt.Sprint(f))
	}
}

// checkBytes fails if Get does not agree with the definitions for a string.
func checkBytes(t *testing.T, b string) {
	t.Helper()
	f, e := tmframe.Get(b)
	if want, g := wantGet(b); f != want || e != g {
		t.Fatalf("Get of %d bytes, %.20x: %.199q, %d, not %.199q, %d", len(b), b, fmt.Sprint(f), e, fmt.Sprint(want), g)
	}
}

func TestP10_1Examples(t *testing.T) {
	data := strings.Repeat("d", 32)
	f := api.TmFrame{Craft: 1, Channel: 2, Master: 3, Count: 4, First: 5, Data: data, Word: 0x01020304}
	if s := put(t, f); s != closed("\x00\x50\x03\x04\x00\x05"+data+"\x01\x02\x03\x04") {
		t.Errorf("Put(%v) = %x", f, s)
	}
	f.First = 32
	if s, e := tmframe.Put(f); s != "" || e != api.ErrArg {
		t.Errorf("Put(%v) = %x, %d", f, s, e)
	}
	f.First = 2046
	if s := put(t, f); len(s) != 44 {
		t.Errorf("Put(%v) = %x", f, s)
	}
	zeros := strings.Repeat("\x00", 44)
	if f, e := tmframe.Get(zeros); f != (api.TmFrame{}) || e != api.ErrTmSum {
		t.Errorf("Get of 44 bytes 0: %v, %d", f, e)
	}
	if f, e := tmframe.Get(zeros[:43]); f != (api.TmFrame{}) || e != api.ErrForm {
		t.Errorf("Get of 43 bytes 0: %v, %d", f, e)
	}
}

// All numbers that a field can have, and those beside them, alone and at the limits of the others.
func TestP10_1Fields(t *testing.T) {
	r := rand.New(rand.NewSource(101))
	for _, base := range []api.TmFrame{
		{Data: strings.Repeat("\x00", 32)},
		{Craft: 255, Channel: 7, Master: 255, Count: 255, First: 2047, Data: strings.Repeat("\xff", 200), Word: 0xffffffff},
		anyFrame(r),
	} {
		for n := -3; n < 260; n++ {
			for _, change := range []func(*api.TmFrame){
				func(f *api.TmFrame) { f.Craft = n },
				func(f *api.TmFrame) { f.Channel = n },
				func(f *api.TmFrame) { f.Master = n },
				func(f *api.TmFrame) { f.Count = n },
				func(f *api.TmFrame) { f.Word = 0x01010101 * uint32(n) },
			} {
				f := base
				change(&f)
				checkFrame(t, f)
			}
		}
		for bit := range 32 {
			f := base
			f.Word = 1 << bit
			checkFrame(t, f)
		}
	}
}

// All places of the first packet in fields of several sizes, and all sizes.
func TestP10_1First(t *testing.T) {
	for _, size := range []int{32, 33, 100, 199, 200} {
		for first := -3; first < 2060; first++ {
			checkFrame(t, api.TmFrame{First: first, Data: strings.Repeat("d", size)})
		}
	}
	for size := range 300 {
		for _, first := range []int{0, 31, 32, size - 1, size, size + 1, 2045, 2046, 2047, 2048} {
			checkFrame(t, api.TmFrame{First: first, Data: strings.Repeat("d", size)})
		}
	}
}

func TestP10_1Random(t *testing.T) {
	r := rand.New(rand.NewSource(102))
	for range 3000 {
		f := anyFrame(r)
		checkFrame(t, f)
		checkFrame(t, spoilt(r, f))
	}
}

// Each number that a frame cannot have makes it invalid, whatever the others are.
func TestP10_1Invalid(t *testing.T) {
	r := rand.New(rand.NewSource(103))
	for range 30 {
		base := anyFrame(r)
		for _, n := range noBytes() {
			f := base
			f.Craft = n
			checkFrame(t, f)
			f = base
			f.Master = n
			checkFrame(t, f)
			f = base
			f.Count = n
			checkFrame(t, f)
		}
		for _, n := range noChannels() {
			f := base
			f.Channel = n
			checkFrame(t, f)
		}
		for _, n := range append(noFirsts(), len(base.Data)) {
			f := base
			f.First = n
			checkFrame(t, f)
		}
	}
	checkFrame(t, api.TmFrame{})
	checkFrame(t, api.TmFrame{First: 2047})
	checkFrame(t, api.TmFrame{Data: strings.Repeat("d", 1<<20)})
}

// All lengths, with right and with wrong checksums: a length is looked at first.
func TestP10_1GetLength(t *testing.T) {
	r := rand.New(rand.NewSource(104))
	for n := range 300 {
		for _, b := range []string{strings.Repeat("\x00", n), anyBytes(r, n), closed(strings.Repeat("\x00", n)), closed("\x00\x50\x03\x04\x00\x05" + anyBytes(r, n))} {
			checkBytes(t, b)
		}
	}
	for _, size := range []int{32, 33, 100, 199, 200} {
		s := put(t, api.TmFrame{Craft: 1, First: 3, Data: anyBytes(r, size)})
		for n := range len(s) {
			if f, e := tmframe.Get(s[:n]); f != (api.TmFrame{}) || n < 44 && e != api.ErrForm || n >= 44 && e == api.OK {
				t.Fatalf("Get of the first %d of %d bytes: %v, %d", n, len(s), f, e)
			}
			checkBytes(t, s[:n])
		}
		for _, more := range []string{"\x00", "a", s, strings.Repeat("\x00", 1000)} {
			checkBytes(t, s+more)
		}
	}
	checkBytes(t, closed(strings.Repeat("\x00", 1<<16)))
}

// Every bit of a frame counts: those of the header that are 0 have to be so, with a right checksum.
func TestP10_1GetForm(t *testing.T) {
	r := rand.New(rand.NewSource(105))
	forms := map[api.Errno]int{}
	for range 40 {
		s := put(t, anyFrame(r))
		for i := range 8 * len(s) {
			b := []byte(s)
			b[i/8] ^= 0x80 >> (i % 8)
			if f, e := tmframe.Get(string(b)); f != (api.TmFrame{}) || e != api.ErrTmSum {
				t.Fatalf("Get of %x with the bit %d inverted: %.99q, %d", s, i, fmt.Sprint(f), e)
			}
			if i >= 8*(len(s)-2) {
				continue
			}
			whole := closed(string(b[:len(b)-2]))
			checkBytes(t, whole)
			f, e := tmframe.Get(whole)
			forms[e]++
			zero := i < 2 || i >= 13 && i < 16 || i >= 32 && i < 37
			if zero && (f != api.TmFrame{} || e != api.ErrForm) || (i < 32 || i >= 48) && !zero && e != api.OK {
				t.Fatalf("Get of %x with the bit %d inverted and a right checksum: %.99q, %d", s, i, fmt.Sprint(f), e)
			}
		}
	}
	if forms[api.OK] < 1000 || forms[api.ErrForm] < 400 || len(forms) != 2 {
		t.Errorf("only these errors: %v", forms)
	}
}

// A right checksum does not make a valid frame of a wrong place of the first packet.
func TestP10_1GetFirst(t *testing.T) {
	for _, size := range []int{32, 117, 200} {
		data := strings.Repeat("d", size)
		for first := range 1 << 16 {
			if first > 2100 && first%97 != 0 {
				continue
			}
			b := closed("\x12\x20\x03\x04" + string([]byte{byte(first >> 8), byte(first)}) + data + "word")
			f, e := tmframe.Get(b)
			if first < size || first == 2046 || first == 2047 {
				want := api.TmFrame{Craft: 0x48, Channel: 4, Master: 3, Count: 4, First: first, Data: data, Word: 0x776f7264}
				if f != want || e != api.OK {
					t.Fatalf("Get of a frame with the First %d: %v, %d", first, f, e)
				}
			} else if f != (api.TmFrame{}) || e != api.ErrForm {
				t.Fatalf("Get of a frame of %d bytes with the First %d: %v, %d", size, first, f, e)
			}
		}
	}
}

// The checksum is that of all bytes before it.
func TestP10_1GetSum(t *testing.T) {
	r := rand.New(rand.NewSource(106))
	for range 20 {
		s := put(t, anyFrame(r))
		end := len(s) - 2
		right := int(s[end])<<8 | int(s[end+1])
		for sum := range 1 << 16 {
			// Those that share a byte with the right one, and some of the others.
			if sum>>8 != right>>8 && sum&255 != right&255 && sum%61 != 0 {
				continue
			}
			b := s[:end] + string([]byte{byte(sum >> 8), byte(sum)})
			if _, e := tmframe.Get(b); (e == api.OK) != (sum == right) || e != api.OK && e != api.ErrTmSum {
				t.Fatalf("Get of %x with the checksum %04x: %d", s, sum, e)
			}
		}
	}
}
