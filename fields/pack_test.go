package fields_test

import (
	"math"
	"math/rand"
	"slices"
	"strings"
	"testing"

	"perigee/api"
	"perigee/fields"
)

func TestP2_3Examples(t *testing.T) {
	if b, e := fields.Pack([]int{3, 2, 7}, []uint64{5, 1, 100}); b != "\xae\x40" || e != api.OK {
		t.Errorf("Pack = %x, %d", b, e)
	}
	if b, e := fields.Pack(nil, nil); b != "" || e != api.OK {
		t.Errorf("Pack of nothing = %x, %d", b, e)
	}
}

func checkPack(t *testing.T, widths []int, values []uint64) {
	t.Helper()
	b, e := fields.Pack(widths, values)
	if b2, e2 := wantPack(widths, values); b != b2 || e != e2 {
		t.Fatalf("Pack(%d, %d) = %x, %d, not %x, %d", widths, values, b, e, b2, e2)
	}
}

func TestP2_3Random(t *testing.T) {
	r := rand.New(rand.NewSource(23))
	for range 5000 {
		widths, values := anyWidths(r, r.Intn(20))
		checkPack(t, widths, values)
		if len(widths) == 0 {
			continue
		}
		i := r.Intn(len(widths))
		values[i] = anyNumber(r)
		checkPack(t, widths, values)
	}
}

// One field of each width, with the numbers at the borders of what fits.
func TestP2_3Borders(t *testing.T) {
	for width := -1; width <= 66; width++ {
		for _, v := range []uint64{0, 1, uint64(1)<<(width&63) - 1, 1 << (width & 63), math.MaxUint64, 1 << 63} {
			checkPack(t, []int{width}, []uint64{v})
			checkPack(t, []int{3, width, 5}, []uint64{7, v, 0})
		}
	}
	for _, width := range []int{math.MinInt, math.MaxInt, -64, 1 << 32, 1<<32 + 1, 1<<62 + 1} {
		checkPack(t, []int{width}, []uint64{0})
		checkPack(t, []int{width, width, width, width}, []uint64{0, 0, 0, 0})
	}
}

func TestP2_3Lengths(t *testing.T) {
	for n := range 5 {
		for m := range 5 {
			checkPack(t, slices.Repeat([]int{9}, n), slices.Repeat([]uint64{3}, m))
		}
	}
}

// The errors of Pack in their order.
func TestP2_3Order(t *testing.T) {
	bits := func(n int) ([]int, []uint64) { return slices.Repeat([]int{1}, n), make([]uint64, n) }
	widths, values := bits(8 * 65536)
	values[8*65536-1] = 1
	b, e := fields.Pack(widths, values)
	if want := strings.Repeat("\x00", 65535) + "\x01"; b != want || e != api.OK {
		t.Errorf("Pack of 65536 bytes is %d bytes, %d", len(b), e)
	}
	values[0] = 2
	if b, e := fields.Pack(widths, values); b != "" || e != api.ErrRange {
		t.Errorf("a value that does not fit: %d bytes, %d", len(b), e)
	}
	widths[5]++
	if b, e := fields.Pack(widths, values); b != "" || e != api.ErrLong {
		t.Errorf("one bit too many, and a value that does not fit: %d bytes, %d", len(b), e)
	}
	widths[8*65536-1] = 65
	if b, e := fields.Pack(widths, values); b != "" || e != api.ErrArg {
		t.Errorf("too many bits, and a wrong width: %d bytes, %d", len(b), e)
	}
	widths[8*65536-1] = 0
	if b, e := fields.Pack(widths, values); b != "" || e != api.ErrArg {
		t.Errorf("too many bits, and no width: %d bytes, %d", len(b), e)
	}
	widths[8*65536-1] = 1
	if b, e := fields.Pack(widths, values[1:]); b != "" || e != api.ErrArg {
		t.Errorf("too many bits, and a value less: %d bytes, %d", len(b), e)
	}
	if b, e := fields.Pack(slices.Repeat([]int{64}, 8192), make([]uint64, 8192)); len(b) != 65536 || e != api.OK {
		t.Errorf("8192 fields of 64 bits are %d bytes, %d", len(b), e)
	}
	// More than 65536 bytes by a part of a byte, and by much.
	for _, n := range []int{8193, 100000} {
		if b, e := fields.Pack(slices.Repeat([]int{64}, n), make([]uint64, n)); b != "" || e != api.ErrLong {
			t.Errorf("%d fields of 64 bits are %d bytes, %d", n, len(b), e)
		}
	}
}

func TestP2_4Examples(t *testing.T) {
	if l, e := fields.Unpack([]int{3, 2, 7}, "\xae\x40"); !slices.Equal(l, []uint64{5, 1, 100}) || e != api.OK {
		t.Errorf("Unpack = %d, %d", l, e)
	}
	if l, e := fields.Unpack([]int{3, 2, 7}, "\xae\x41"); len(l) != 0 || e != api.ErrForm {
		t.Errorf("Unpack with a bit 1 at the end = %d, %d", l, e)
	}
}

func checkUnpack(t *testing.T, widths []int, b string) {
	t.Helper()
	l, e := fields.Unpack(widths, b)
	if l2, e2 := wantUnpack(widths, b); !slices.Equal(l, l2) || e != e2 {
		t.Fatalf("Unpack(%d, %x) = %d, %d, not %d, %d", widths, b, l, e, l2, e2)
	}
}

// Strings of the right length, with and without bits 1 at the end, and others.
func TestP2_4Random(t *testing.T) {
	r := rand.New(rand.NewSource(24))
	for range 5000 {
		widths, values := anyWidths(r, r.Intn(10))
		b, _ := fields.Pack(widths, values)
		checkUnpack(t, widths, b)
		checkUnpack(t, widths, anyString(r, len(b)))
		checkUnpack(t, widths, anyString(r, r.Intn(20)))
		checkUnpack(t, widths, b+"\x00")
		if len(b) > 0 {
			checkUnpack(t, widths, b[1:])
			checkUnpack(t, widths, b[:len(b)-1])
		}
	}
}

// Each bit behind the fields counts.
func TestP2_4Rest(t *testing.T) {
	for width := 1; width <= 64; width++ {
		n := (width + 7) / 8
		for bit := range 8 * n {
			b, _ := fields.Flip(strings.Repeat("\x00", n), bit)
			checkUnpack(t, []int{width}, b)
		}
		for m := range 10 {
			checkUnpack(t, []int{width}, strings.Repeat("\x00", m))
		}
	}
	checkUnpack(t, nil, "")
	checkUnpack(t, nil, "\x00")
}

// The errors of Unpack in their order.
func TestP2_4Order(t *testing.T) {
	long := strings.Repeat("\x00", 65537)
	for _, c := range []struct {
		widths []int
		b      string
		e      api.Errno
	}{
		{slices.Repeat([]int{64}, 8192), long[1:], api.OK},
		{slices.Repeat([]int{8}, 65537), long, api.ErrLong},
		{[]int{0}, long, api.ErrLong},
		{nil, long, api.ErrLong},
		{[]int{0}, long[1:], api.ErrArg},
		{[]int{64, 65}, "", api.ErrArg},
		{[]int{-1}, "\x01", api.ErrArg},
		{[]int{-8, 16}, "\x01", api.ErrArg},
		{[]int{16, -8}, "\x01", api.ErrArg},
		{[]int{1<<32 + 8}, "\x01", api.ErrArg},
		// Pack returns no string for these widths.
		{slices.Repeat([]int{8}, 65537), long[1:], api.ErrForm},
		{append(slices.Repeat([]int{64}, 8192), 1), long[1:], api.ErrForm},
		{slices.Repeat([]int{64}, 100000), "", api.ErrForm},
	} {
		l, e := fields.Unpack(c.widths, c.b)
		if e != c.e || e != api.OK && len(l) != 0 || e == api.OK && len(l) != len(c.widths) {
			t.Errorf("Unpack of %d widths and %d bytes = %d values, %d", len(c.widths), len(c.b), len(l), e)
		}
	}
}
