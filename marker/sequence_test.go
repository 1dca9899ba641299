package marker_test

import (
	"math"
	"math/rand"
	"strings"
	"testing"

	"perigee/api"
	"perigee/marker"
)

func TestP8_1Examples(t *testing.T) {
	for _, c := range []struct {
		n    int
		want string
		e    api.Errno
	}{
		{4, "\xff\x48\x0e\xc0", api.OK},
		{0, "", api.OK},
		{1, "\xff", api.OK},
		{8, "\xff\x48\x0e\xc0\x9a\x0d\x70\xbc", api.OK},
		{-1, "", api.ErrArg},
	} {
		if s, e := marker.Sequence(c.n); s != c.want || e != c.e {
			t.Errorf("Sequence(%d) = %x, %d, not %x, %d", c.n, s, e, c.want, c.e)
		}
	}
	for _, c := range [][2]string{{"\x00\x48", "\xff\x00"}, {"", ""}, {"\x00", "\xff"}, {"\xff\x48\x0e\xc0", "\x00\x00\x00\x00"}, {"abcd", "\x9e\x2a\x6d\xa4"}} {
		if s, e := marker.Mix(c[0]); s != c[1] || e != api.OK {
			t.Errorf("Mix(%x) = %x, %d, not %x", c[0], s, e, c[1])
		}
	}
}

func checkSequence(t *testing.T, n int, whole string) {
	t.Helper()
	if s, e := marker.Sequence(n); s != whole[:n] || e != api.OK {
		t.Fatalf("Sequence(%d): %d bytes, %.20x.., %d", n, len(s), s, e)
	}
}

func TestP8_1Sequence(t *testing.T) {
	whole := wantSequence(65536)
	for n := range 1100 {
		checkSequence(t, n, whole)
	}
	for _, n := range []int{4095, 4096, 32767, 32768, 65535, 65536} {
		checkSequence(t, n, whole)
	}
	for _, n := range []int{-1, -2, -65536, 65537, 65538, 1 << 17, 1 << 32, 1<<32 + 1, 1 << 60, -1 << 60, math.MinInt, math.MaxInt} {
		if s, e := marker.Sequence(n); s != "" || e != api.ErrArg {
			t.Errorf("Sequence(%d): %d bytes, %d", n, len(s), e)
		}
	}
}

func checkMix(t *testing.T, b, whole string) {
	t.Helper()
	want := []byte(b)
	for i := range want {
		want[i] ^= whole[i]
	}
	if s, e := marker.Mix(b); s != string(want) || e != api.OK {
		t.Fatalf("Mix of %d bytes, %.20x: %d bytes, %.20x, %d", len(b), b, len(s), s, e)
	}
}

func TestP8_1Mix(t *testing.T) {
	r := rand.New(rand.NewSource(81))
	whole := wantSequence(65536)
	for i := range 1 << 16 {
		checkMix(t, string([]byte{byte(i >> 8), byte(i)}), whole)
	}
	for n := range 300 {
		checkMix(t, anyBytes(r, n), whole)
	}
	for _, n := range []int{1000, 65535, 65536} {
		checkMix(t, anyBytes(r, n), whole)
		checkMix(t, strings.Repeat("\x00", n), whole)
	}
	for _, n := range []int{65537, 65538, 1 << 17, 1 << 24} {
		if s, e := marker.Mix(strings.Repeat("\x00", n)); s != "" || e != api.ErrLong {
			t.Errorf("Mix of %d bytes: %d bytes, %d", n, len(s), e)
		}
	}
}
