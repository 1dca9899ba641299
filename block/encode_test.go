package block_test

import (
	"math/rand"
	"strings"
	"testing"

	"perigee/api"
	"perigee/block"
)

func TestP5_1Examples(t *testing.T) {
	for _, c := range []struct{ data, b string }{
		{"\x00", strings.Repeat("\x00", 9)},
		{"\x01", "\x01\xff\x0b\x51\x36\xef\xad\xc8\x18"},
		{"\x00\x01", "\x00\x01\xff\x0b\x51\x36\xef\xad\xc8\x18"},
		// The product of 2 and the bytes of the block with the data 1.
		{"\x02", "\x02\xe3\x16\xa2\x6c\xc3\x47\x8d\x30"},
	} {
		if b, e := block.Encode(c.data); b != c.b || e != api.OK {
			t.Errorf("Encode(%x) = %x, %d, not %x", c.data, b, e, c.b)
		}
	}
	if b, e := block.Encode(""); b != "" || e != api.ErrArg {
		t.Errorf("Encode of nothing: %x, %d", b, e)
	}
}

func checkEncode(t *testing.T, data string) {
	t.Helper()
	b, e := block.Encode(data)
	if e != api.OK || len(b) != len(data)+8 || !strings.HasPrefix(b, data) || !isBlock(b) {
		t.Fatalf("Encode(%x) = %x, %d: no code block with these data", data, b, e)
	}
	if b != wantBlock(data) {
		t.Fatalf("Encode(%x) = %x, not %x", data, b, wantBlock(data))
	}
}

func TestP5_1All(t *testing.T) {
	for c := range 256 {
		checkEncode(t, string([]byte{byte(c)}))
		checkEncode(t, string([]byte{0, byte(c)}))
		checkEncode(t, string([]byte{byte(c), 0}))
	}
}

// Data of every length.
func TestP5_1Random(t *testing.T) {
	r := rand.New(rand.NewSource(51))
	for n := 1; n <= 223; n++ {
		for range 5 {
			checkEncode(t, anyData(r, n))
		}
		checkEncode(t, strings.Repeat("\x00", n))
		checkEncode(t, strings.Repeat("\xff", n))
	}
}

func TestP5_1Limit(t *testing.T) {
	for _, n := range []int{0, 224, 225, 231, 232, 255, 256, 1 << 16} {
		for _, c := range []string{"\x00", "a"} {
			if b, e := block.Encode(strings.Repeat(c, n)); b != "" || e != api.ErrArg {
				t.Errorf("Encode of %d bytes: %d bytes, %d", n, len(b), e)
			}
		}
	}
}

// wantWrap puts the code blocks together byte by byte.
func wantWrap(data string, depth int) string {
	parts := make([]string, depth)
	for i := range len(data) {
		parts[i%depth] += data[i : i+1]
	}
	b := make([]byte, len(data)+8*depth)
	copy(b, data)
	for j, part := range parts {
		for p, c := range []byte(wantBlock(part)[len(part):]) {
			b[len(data)+p*depth+j] = c
		}
	}
	return string(b)
}

func TestP5_3Examples(t *testing.T) {
	for _, c := range []struct {
		data  string
		depth int
		b     string
	}{
		{"\x00\x00", 2, strings.Repeat("\x00", 18)},
		{"\x01", 1, "\x01\xff\x0b\x51\x36\xef\xad\xc8\x18"},
		{"\x01\x00", 2, "\x01\x00\xff\x00\x0b\x00\x51\x00\x36\x00\xef\x00\xad\x00\xc8\x00\x18\x00"},
		{"\x00\x01\x00", 2, "\x00\x01\x00\x00\xff\x00\x0b\x00\x51\x00\x36\x00\xef\x00\xad\x00\xc8\x00\x18"},
		{"\x00\x00\x00\x00\x01", 4, "\x00\x00\x00\x00\x01\xff\x00\x00\x00\x0b\x00\x00\x00\x51\x00\x00\x00\x36\x00\x00\x00\xef\x00\x00\x00\xad\x00\x00\x00\xc8\x00\x00\x00\x18\x00\x00\x00"},
	} {
		if b, e := block.Wrap(c.data, c.depth); b != c.b || e != api.OK {
			t.Errorf("Wrap(%x, %d) = %x, %d, not %x", c.data, c.depth, b, e, c.b)
		}
	}
	if b, e := block.Wrap("\x00", 2); b != "" || e != api.ErrArg {
		t.Errorf("Wrap of a byte with the depth 2: %x, %d", b, e)
	}
}

func checkWrap(t *testing.T, data string, depth int) {
	t.Helper()
	if b, e := block.Wrap(data, depth); b != wantWrap(data, depth) || e != api.OK {
		t.Fatalf("Wrap(%x, %d) = %x, %d, not %x", data, depth, b, e, wantWrap(data, depth))
	}
}

// Data of every length that is allowed at each depth.
func TestP5_3All(t *testing.T) {
	r := rand.New(rand.NewSource(53))
	for depth := 1; depth <= 4; depth++ {
		for n := depth; n <= 223*depth; n++ {
			checkWrap(t, anyData(r, n), depth)
		}
	}
}

func TestP5_3Limit(t *testing.T) {
	for depth := 1; depth <= 4; depth++ {
		for _, n := range []int{0, depth - 1, 223*depth + 1, 231 * depth, 1 << 16} {
			if b, e := block.Wrap(strings.Repeat("a", n), depth); b != "" || e != api.ErrArg {
				t.Errorf("Wrap of %d bytes with the depth %d: %d bytes, %d", n, depth, len(b), e)
			}
		}
	}
	for _, depth := range []int{0, -1, 5, 6, 1 << 32, -1 << 63, 1<<63 - 1} {
		for _, n := range []int{0, 1, 5, 223, 1000} {
			if b, e := block.Wrap(strings.Repeat("a", n), depth); b != "" || e != api.ErrArg {
				t.Errorf("Wrap of %d bytes with the depth %d: %d bytes, %d", n, depth, len(b), e)
			}
		}
	}
}
