package fields_test

import (
	"math"
	"math/rand"
	"strings"
	"testing"

	"perigee/api"
	"perigee/fields"
)

// places returns numbers that are given as at and width: those of fields of a string of n bytes, and others.
func places(n int) ([]int, []int) {
	at := []int{math.MinInt, math.MinInt + 1, -65, -64, -9, -8, -2, math.MaxInt - 64, math.MaxInt - 1, math.MaxInt, 1 << 32, -1 << 32}
	for i := -1; i <= 8*n+2; i++ {
		at = append(at, i)
	}
	width := []int{math.MinInt, -1 << 32, -64, -1, 66, 128, 1 << 8, 1 << 32, 1<<32 + 1, math.MaxInt - 1, math.MaxInt}
	for i := 0; i <= 65; i++ {
		width = append(width, i)
	}
	return at, width
}

func TestP2_1Examples(t *testing.T) {
	for _, c := range []struct {
		b         string
		at, width int
		v         uint64
		e         api.Errno
	}{
		{"\xa5\xc3", 4, 8, 0x5c, api.OK},
		{"\xa5\xc3", 0, 1, 1, api.OK},
		{"\xa5\xc3", 12, 5, 0, api.ErrArg},
		// The numbers of bits.
		{"\x80", 0, 1, 1, api.OK},
		{"\x01", 7, 1, 1, api.OK},
		{"\x00\x80", 8, 1, 1, api.OK},
	} {
		if v, e := fields.Get(c.b, c.at, c.width); v != c.v || e != c.e {
			t.Errorf("Get(%x, %d, %d) = %d, %d", c.b, c.at, c.width, v, e)
		}
	}
	if v, e := fields.Signed("\xa5\xc3", 0, 4); v != -6 || e != api.OK {
		t.Errorf("Signed from 0 on = %d, %d", v, e)
	}
	if v, e := fields.Signed("\xa5\xc3", 4, 4); v != 5 || e != api.OK {
		t.Errorf("Signed from 4 on = %d, %d", v, e)
	}
}

func checkGet(t *testing.T, b string, at, width int) {
	t.Helper()
	v, e := fields.Get(b, at, width)
	if v2, e2 := wantGet(b, at, width); v != v2 || e != e2 {
		t.Fatalf("Get(%x, %d, %d) = %d, %d, not %d, %d", b, at, width, v, e, v2, e2)
	}
	n, e := fields.Signed(b, at, width)
	if n2, e2 := wantSigned(b, at, width); n != n2 || e != e2 {
		t.Fatalf("Signed(%x, %d, %d) = %d, %d, not %d, %d", b, at, width, n, e, n2, e2)
	}
}

// Every place of short strings, and beside them.
func TestP2_1Places(t *testing.T) {
	r := rand.New(rand.NewSource(21))
	for n := range 11 {
		ats, widths := places(n)
		for _, b := range []string{strings.Repeat("\xff", n), strings.Repeat("\x00", n), anyString(r, n)} {
			for _, at := range ats {
				for _, width := range widths {
					checkGet(t, b, at, width)
				}
			}
		}
	}
}

func TestP2_1Signs(t *testing.T) {
	for width := 1; width <= 64; width++ {
		for _, at := range []int{0, 1, 7, 8} {
			least, e := fields.Put(strings.Repeat("\x00", 10), at, 1, 1)
			if n, f := fields.Signed(least, at, width); e != api.OK || f != api.OK || n != -1<<(width-1) {
				t.Errorf("the least number of %d bits is %d, %d", width, n, f)
			}
			most, e := fields.Put(strings.Repeat("\xff", 10), at, 1, 0)
			if n, f := fields.Signed(most, at, width); e != api.OK || f != api.OK || n != int64(uint64(1)<<(width-1)-1) {
				t.Errorf("the greatest number of %d bits is %d, %d", width, n, f)
			}
		}
		if n, e := fields.Signed(strings.Repeat("\xff", 10), 3, width); n != -1 || e != api.OK {
			t.Errorf("%d bits 1 are %d, %d", width, n, e)
		}
	}
}

func TestP2_1Long(t *testing.T) {
	b := strings.Repeat("\x00", 65535) + "\x5a"
	for at := 8*65536 - 70; at < 8*65536+2; at++ {
		for _, width := range []int{1, 2, 8, 63, 64, 65} {
			checkGet(t, b, at, width)
		}
	}
	for _, width := range []int{1, 0, 65} {
		for _, at := range []int{0, -1, 8 * 65537, math.MaxInt} {
			checkGet(t, b+"\x00", at, width)
		}
	}
}

func TestP2_2Examples(t *testing.T) {
	if b, e := fields.Put("\x00\x00", 6, 4, 11); b != "\x02\xc0" || e != api.OK {
		t.Errorf("Put of 11 = %x, %d", b, e)
	}
	if b, e := fields.Put("\x00", 4, 4, 16); b != "" || e != api.ErrRange {
		t.Errorf("Put of 16 = %x, %d", b, e)
	}
	if b, e := fields.PutSigned("\xff", 0, 4, -8); b != "\x8f" || e != api.OK {
		t.Errorf("PutSigned of -8 = %x, %d", b, e)
	}
	if b, e := fields.PutSigned("\xff", 0, 4, 8); b != "" || e != api.ErrRange {
		t.Errorf("PutSigned of 8 = %x, %d", b, e)
	}
}

func checkPut(t *testing.T, b string, at, width int, v uint64) {
	t.Helper()
	c, e := fields.Put(b, at, width, v)
	if c2, e2 := wantPut(b, at, width, v); c != c2 || e != e2 {
		t.Fatalf("Put(%x, %d, %d, %d) = %x, %d, not %x, %d", b, at, width, v, c, e, c2, e2)
	}
	if got, f := fields.Get(c, at, width); e == api.OK && (got != v || f != api.OK) {
		t.Fatalf("Get behind Put(%x, %d, %d, %d) = %d, %d", b, at, width, v, got, f)
	}
	n := int64(v)
	c, e = fields.PutSigned(b, at, width, n)
	if c2, e2 := wantPutSigned(b, at, width, n); c != c2 || e != e2 {
		t.Fatalf("PutSigned(%x, %d, %d, %d) = %x, %d, not %x, %d", b, at, width, n, c, e, c2, e2)
	}
	if got, f := fields.Signed(c, at, width); e == api.OK && (got != n || f != api.OK) {
		t.Fatalf("Signed behind PutSigned(%x, %d, %d, %d) = %d, %d", b, at, width, n, got, f)
	}
}

// Every field of a string of nine bytes, with the numbers at the borders of what fits.
func TestP2_2Borders(t *testing.T) {
	for _, b := range []string{strings.Repeat("\x00", 9), strings.Repeat("\xff", 9), "\xa5\xc3\x01\x80\x7e\x12\x34\x56\x78"} {
		for width := 1; width <= 64; width++ {
			for at := 0; at <= 72-width; at++ {
				top, half := uint64(1)<<(width-1)<<1, uint64(1)<<(width-1)
				for _, v := range []uint64{0, 1, half - 1, half, top - 1, top, top + 1, -half, -half - 1, math.MaxUint64, 1 << 63, 1<<63 - 1} {
					checkPut(t, b, at, width, v)
				}
			}
		}
	}
}

// A place that is no field is named ahead of a number that does not fit.
func TestP2_2Places(t *testing.T) {
	for n := range 10 {
		ats, widths := places(n)
		b := strings.Repeat("\x69", n)
		for _, at := range ats {
			for _, width := range widths {
				for _, v := range []uint64{0, 1, math.MaxUint64, 1 << 63} {
					checkPut(t, b, at, width, v)
				}
			}
		}
	}
}

func TestP2_2Random(t *testing.T) {
	r := rand.New(rand.NewSource(22))
	for range 30000 {
		b := anyString(r, r.Intn(20))
		checkPut(t, b, r.Intn(170)-2, r.Intn(66), anyNumber(r))
		checkPut(t, b, r.Intn(170)-2, r.Intn(66), -anyNumber(r))
	}
}

// A string that is too long is named ahead of all other errors.
func TestP2_2Long(t *testing.T) {
	b := strings.Repeat("\x5a", 65536)
	for _, at := range []int{-1, 0, 8*65536 - 64, 8*65536 - 3, 8 * 65536} {
		for _, width := range []int{0, 3, 64, 65} {
			for _, v := range []uint64{5, math.MaxUint64, 1 << 40} {
				checkPut(t, b, at, width, v)
				checkPut(t, b+"\x00", at, width, v)
			}
		}
	}
}
