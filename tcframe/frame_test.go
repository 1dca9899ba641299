package tcframe_test

import (
	"fmt"
	"math/rand"
	"strings"
	"testing"

	"perigee/api"
	"perigee/tcframe"
)

// checkFrame fails if Put, Get and Front do not agree with the definitions for a frame.
func checkFrame(t *testing.T, f api.TcFrame) {
	t.Helper()
	s, e := tcframe.Put(f)
	if !wantValid(f) {
		if s != "" || e != api.ErrArg {
			t.Fatalf("Put(%.99q) = %.20x, %d", fmt.Sprint(f), s, e)
		}
		return
	}
	if want := wantPut(f); s != want || e != api.OK {
		t.Fatalf("Put(%.99q) = %x, %d, not %x", fmt.Sprint(f), s, e, want)
	}
	if g, e := tcframe.Get(s); g != f || e != api.OK {
		t.Fatalf("Get(%x) = %.99q, %d, not %.99q", s, fmt.Sprint(g), e, fmt.Sprint(f))
	}
	if g, n, e := tcframe.Front(s); g != f || n != len(s) || e != api.OK {
		t.Fatalf("Front(%x) = %.99q, %d, %d, not %.99q", s, fmt.Sprint(g), n, e, fmt.Sprint(f))
	}
}

// checkBytes fails if Get and Front do not agree with the definitions for a string, and returns their errors.
func checkBytes(t *testing.T, b string) (get, front api.Errno) {
	t.Helper()
	f, e := tcframe.Get(b)
	if want, w := wantGet(b); f != want || e != w {
		t.Fatalf("Get of %d bytes, %.20x: %.99q, %d, not %.99q, %d", len(b), b, fmt.Sprint(f), e, fmt.Sprint(want), w)
	}
	g, n, d := tcframe.Front(b)
	if want, length, w := wantFront(b); g != want || n != length || d != w {
		t.Fatalf("Front of %d bytes, %.20x: %.99q, %d, %d, not %.99q, %d, %d", len(b), b, fmt.Sprint(g), n, d, fmt.Sprint(want), length, w)
	}
	return e, d
}

func TestP12_1Examples(t *testing.T) {
	f := api.TcFrame{Craft: 1, Channel: 2, Bypass: true, Seq: 3, Data: "A"}
	if s := put(t, f); s != closed("\x20\x01\x08\x07\x03A") {
		t.Errorf("Put(%v) = %x", f, s)
	}
	f.Bypass, f.Control = false, true
	if s, e := tcframe.Put(f); s != "" || e != api.ErrArg {
		t.Errorf("Put(%v) = %x, %d", f, s, e)
	}
	if s, e := tcframe.Put(api.TcFrame{Data: strings.Repeat("d", 201)}); s != "" || e != api.ErrArg {
		t.Errorf("Put of 201 bytes = %x, %d", s, e)
	}
	f = api.TcFrame{Craft: 255, Channel: 7, Bypass: true, Control: true, Seq: 255, Data: strings.Repeat("d", 200)}
	if s := put(t, f); s != closed("\x30\xff\x1c\xce\xff"+f.Data) || len(s) != 207 {
		t.Errorf("Put(%v) = %x", f, s)
	}
}

// All numbers that a field can have, and those beside them, alone and at the limits of the others.
func TestP12_1Fields(t *testing.T) {
	r := rand.New(rand.NewSource(121))
	for _, base := range []api.TcFrame{
		{Data: "\x00"},
		{Craft: 255, Channel: 7, Bypass: true, Control: true, Seq: 255, Data: strings.Repeat("\xff", 200)},
		anyFrame(r),
	} {
		for n := -3; n < 1030; n++ {
			for _, change := range []func(*api.TcFrame){
				func(f *api.TcFrame) { f.Craft = n },
				func(f *api.TcFrame) { f.Channel = n },
				func(f *api.TcFrame) { f.Seq = n },
			} {
				f := base
				change(&f)
				checkFrame(t, f)
			}
		}
		for flags := range 4 {
			f := base
			f.Bypass, f.Control = flags&1 != 0, flags&2 != 0
			checkFrame(t, f)
		}
		for size := range 1100 {
			f := base
			f.Data = anyBytes(r, size)
			checkFrame(t, f)
		}
	}
}

func TestP12_1Random(t *testing.T) {
	r := rand.New(rand.NewSource(122))
	for range 5000 {
		f := anyFrame(r)
		checkFrame(t, f)
		checkFrame(t, spoilt(r, f))
	}
}

// Each number that a frame cannot have makes it invalid, whatever the others are.
func TestP12_1Invalid(t *testing.T) {
	r := rand.New(rand.NewSource(123))
	for range 30 {
		base := anyFrame(r)
		refuse := func(change func(*api.TcFrame)) {
			t.Helper()
			f := base
			change(&f)
			if s, e := tcframe.Put(f); s != "" || e != api.ErrArg {
				t.Fatalf("Put(%.99q) = %.20x, %d", fmt.Sprint(f), s, e)
			}
		}
		for _, n := range noBytes() {
			refuse(func(f *api.TcFrame) { f.Craft = n })
			refuse(func(f *api.TcFrame) { f.Seq = n })
		}
		for _, n := range noChannels() {
			refuse(func(f *api.TcFrame) { f.Channel = n })
		}
		for _, n := range noSizes() {
			refuse(func(f *api.TcFrame) { f.Data = strings.Repeat("d", n) })
		}
		refuse(func(f *api.TcFrame) { f.Bypass, f.Control = false, true })
	}
	checkFrame(t, api.TcFrame{})
}

// All lengths, with right and with wrong checksums: a length is looked at first.
func TestP12_1GetLength(t *testing.T) {
	r := rand.New(rand.NewSource(124))
	for n := range 1200 {
		data := anyBytes(r, n)
		head := headOf(api.TcFrame{Craft: 9}, min(n+7, 1024))
		for _, b := range []string{data, strings.Repeat("\x00", n), closed(data), closed(strings.Repeat("\x00", n)), closed(head + data), head + data} {
			e, _ := checkBytes(t, b)
			if length := len(b); (length < 8 || length > 207) && e != api.ErrForm {
				t.Fatalf("Get of %d bytes: %d", length, e)
			}
		}
	}
	for _, size := range []int{1, 2, 100, 199, 200} {
		s := put(t, api.TcFrame{Craft: 1, Seq: 3, Data: anyBytes(r, size)})
		for n := range len(s) {
			if e, _ := checkBytes(t, s[:n]); n < 8 && e != api.ErrForm || n >= 8 && e == api.OK {
				t.Fatalf("Get of the first %d of %d bytes: %d", n, len(s), e)
			}
		}
		for _, more := range []string{"\x00", "a", s, strings.Repeat("\x00", 1000), strings.Repeat("\x00", 1<<17)} {
			checkBytes(t, s+more)
		}
	}
}

// The number of bytes in the header has to be right, with a right checksum.
func TestP12_1GetSize(t *testing.T) {
	r := rand.New(rand.NewSource(125))
	for _, size := range []int{1, 2, 60, 199, 200} {
		f := anyFrame(r)
		f.Data = anyBytes(r, size)
		for n := 1; n <= 1024; n++ {
			e, _ := checkBytes(t, closed(headOf(f, n)+f.Data))
			if (e == api.OK) != (n == size+7) || e != api.OK && e != api.ErrForm {
				t.Fatalf("Get of %d bytes with the size %d: %d", size+7, n, e)
			}
		}
	}
}

// All fields of the header, also those that have to be 0, with a right checksum.
func TestP12_1GetForm(t *testing.T) {
	for _, size := range []int{1, 117} {
		data := strings.Repeat("d", size)
		for high := range 1 << 6 {
			for craft := range 1 << 10 {
				if craft%256 > 2 && craft%256 < 253 && craft%31 != 0 {
					continue
				}
				head := bytesOf(fmt.Sprintf("%06b%010b%06b%010b%08b", high, craft, 5, size+6, 77))
				f, e := tcframe.Get(closed(head + data))
				// Without a flag, Bypass, and both.
				right := (high == 0 || high == 8 || high == 12) && craft < 256
				want := api.TcFrame{Craft: craft, Channel: 5, Bypass: high != 0, Control: high == 12, Seq: 77, Data: data}
				if right && (f != want || e != api.OK) || !right && (f != api.TcFrame{} || e != api.ErrForm) {
					t.Fatalf("Get with the bits %06b and the craft %d: %v, %d", high, craft, f, e)
				}
			}
		}
		for channel := range 1 << 6 {
			head := bytesOf(fmt.Sprintf("%06b%010b%06b%010b%08b", 8, 3, channel, size+6, 77))
			if f, e := tcframe.Get(closed(head + data)); (e == api.OK) != (channel < 8) || e == api.OK && f.Channel != channel || e != api.OK && e != api.ErrForm {
				t.Fatalf("Get with the channel %d: %v, %d", channel, f, e)
			}
		}
	}
}

// Every bit of a frame counts, with a wrong checksum and with a right one.
func TestP12_1GetBits(t *testing.T) {
	r := rand.New(rand.NewSource(126))
	forms := map[api.Errno]int{}
	for range 40 {
		s := put(t, anyFrame(r))
		for i := range 8 * len(s) {
			b := inverted(s, i-15, 1)
			if f, e := tcframe.Get(b); f != (api.TcFrame{}) || e != api.ErrTcSum {
				t.Fatalf("Get of %x with the bit %d inverted: %.99q, %d", s, i, fmt.Sprint(f), e)
			}
			if i < 8*(len(s)-2) {
				e, _ := checkBytes(t, closed(b[:len(b)-2]))
				forms[e]++
			}
		}
	}
	if forms[api.OK] < 1000 || forms[api.ErrForm] < 400 || len(forms) != 2 {
		t.Errorf("only these errors: %v", forms)
	}
}

// The checksum is that of all bytes before it; it is looked at before the header.
func TestP12_1GetSum(t *testing.T) {
	r := rand.New(rand.NewSource(127))
	for i := range 20 {
		s := put(t, anyFrame(r))
		if i%2 == 0 {
			s = closed("\xc0" + s[1:len(s)-2])
		}
		end := len(s) - 2
		right := int(s[end])<<8 | int(s[end+1])
		for sum := range 1 << 16 {
			// Those that share a byte with the right one, and some of the others.
			if sum>>8 != right>>8 && sum&255 != right&255 && sum%61 != 0 {
				continue
			}
			want := api.ErrTcSum
			if sum == right && i%2 == 0 {
				want = api.ErrForm
			} else if sum == right {
				want = api.OK
			}
			b := s[:end] + string([]byte{byte(sum >> 8), byte(sum)})
			if _, e := tcframe.Get(b); e != want {
				t.Fatalf("Get of %x with the checksum %04x: %d", s, sum, e)
			}
		}
	}
}

// All lengths that a header can say, with strings that are longer and shorter.
func TestP12_2Lengths(t *testing.T) {
	r := rand.New(rand.NewSource(128))
	for n := 1; n <= 1024; n++ {
		f := anyFrame(r)
		head := headOf(f, n)
		for _, length := range []int{5, 6, 7, 8, n - 2, n - 1, n, n + 1, n + 2, 207, 208, 1024, 2000} {
			if length < 5 {
				continue
			}
			b := head + anyBytes(r, length-5)
			if n >= 7 && length >= n {
				b = closed(b[:n-2]) + b[n:]
			}
			right := n >= 8 && n <= 207 && n <= length
			if _, e := checkBytes(t, b); (e == api.OK) != right || e != api.OK && e != api.ErrForm {
				t.Fatalf("Front of %d bytes with the length %d: %d", length, n, e)
			}
		}
	}
}

// Fewer than five bytes are no frame, whatever they are; five to seven are none either.
func TestP12_2Short(t *testing.T) {
	r := rand.New(rand.NewSource(129))
	for range 200 {
		s := put(t, anyFrame(r))
		for n := range len(s) {
			for _, b := range []string{s[:n], strings.Repeat("\x00", n), strings.Repeat("\xff", n)} {
				if f, length, e := tcframe.Front(b); f != (api.TcFrame{}) || length != 0 || e != api.ErrForm {
					t.Fatalf("Front(%x) = %v, %d, %d", b, f, length, e)
				}
			}
		}
	}
}

// The errors are those of Get of the first bytes, with the length 0.
func TestP12_2Errors(t *testing.T) {
	r := rand.New(rand.NewSource(1210))
	for range 500 {
		s := put(t, anyFrame(r))
		more := anyBytes(r, r.Intn(300))
		// A bit that is not one of the length, in the header or behind it.
		at := r.Intn(8*len(s) - 10)
		if at >= 22 {
			at += 10
		}
		if f, n, e := tcframe.Front(inverted(s, at-15, 1) + more); f != (api.TcFrame{}) || n != 0 || e != api.ErrTcSum {
			t.Fatalf("Front of %x with the bit %d inverted: %v, %d, %d", s, at, f, n, e)
		}
		for _, first := range []byte{0x40, 0x80, 0x08, 0x04} {
			b := closed(string([]byte{s[0] | first}) + s[1:len(s)-2])
			if f, n, e := tcframe.Front(b + more); f != (api.TcFrame{}) || n != 0 || e != api.ErrForm {
				t.Fatalf("Front of %x: %v, %d, %d", b, f, n, e)
			}
		}
	}
}

// Strings that are longer than any layer below takes.
func TestP12_2Long(t *testing.T) {
	r := rand.New(rand.NewSource(1211))
	f := anyFrame(r)
	s := put(t, f)
	for _, n := range []int{65535, 65536, 65537, 1 << 20} {
		if g, length, e := tcframe.Front(s + strings.Repeat("U", n)); g != f || length != len(s) || e != api.OK {
			t.Errorf("Front of %d bytes more: %v, %d, %d", n, g, length, e)
		}
	}
}

func TestP12_2Random(t *testing.T) {
	r := rand.New(rand.NewSource(1212))
	errors := map[api.Errno]int{}
	for range 20000 {
		b := []byte(anyBytes(r, r.Intn(260)))
		if len(b) >= 5 && r.Intn(4) > 0 {
			b[2] &= 0x1c
		}
		if len(b) >= 5 && r.Intn(2) == 0 {
			b[0], b[3] = b[0]&0x30, byte(r.Intn(len(b)))
			if n := int(b[3]) + 1; n >= 3 && n <= len(b) {
				copy(b, closed(string(b[:n-2])))
			}
		}
		_, e := checkBytes(t, string(b))
		errors[e]++
	}
	if errors[api.OK] < 1000 || errors[api.ErrForm] < 1000 || errors[api.ErrTcSum] < 1000 {
		t.Errorf("only these errors: %v", errors)
	}
}
