package block_test

import (
	"fmt"
	"math"
	"math/rand"
	"slices"
	"strings"
	"testing"

	"perigee/api"
	"perigee/block"
)

func TestP5_2Examples(t *testing.T) {
	nine := strings.Repeat("\x00", 9)
	for _, c := range []struct {
		b      string
		erased []int
		data   string
		n      int
		e      api.Errno
	}{
		{"\x01\xff\x0b\x51\x36\xef\xad\xc8\x18", nil, "\x01", 0, api.OK},
		{"\x01\xff\x0b\x51\x00\x00\x00\x00\x18", nil, "\x01", 4, api.OK},
		{"\x01\xff\x0b\x51\x37\xee\xac\xc9\x19", nil, "", 0, api.ErrBlock},
		{"\x00\x00\x00\x00\x36\xef\xad\xc8\x18", nil, "\x01", 4, api.OK},
		{"\x00\x00\x00\x00\x00\xef\xad\xc8\x18", nil, "\x00", 4, api.OK},
		{"\x01\xff\x00\x00\x00\x00\x00\x00\x18", []int{2, 3, 4, 5, 6, 7}, "\x01", 6, api.OK},
		// One more is wrong that is not erased, and two more.
		{"\x01\xff\x00\x00\x00\x00\x00\x00\x19", []int{2, 3, 4, 5, 6, 7}, "\x01", 7, api.OK},
		{"\x01\xfe\x00\x00\x00\x00\x00\x00\x19", []int{2, 3, 4, 5, 6, 7}, "", 0, api.ErrBlock},
		// With 7 erased places no other one may be wrong.
		{"\x01\xff\x00\x00\x00\x00\x00\x00\x18", []int{1, 2, 3, 4, 5, 6, 7}, "\x01", 6, api.OK},
		{"\x01\xff\x00\x00\x00\x00\x00\x00\x19", []int{1, 2, 3, 4, 5, 6, 7}, "", 0, api.ErrBlock},
		// Erased places may be right, and occur more than once.
		{"\x01\xff\x0b\x51\x36\xef\xad\xc8\x18", []int{0, 1, 2, 3, 4, 5, 6, 7}, "\x01", 0, api.OK},
		{"\x01\xff\x0b\x51\x36\xef\xad\xc8\x19", []int{8, 8, 8, 8, 8, 8, 8, 8, 8}, "\x01", 1, api.OK},
		{nine, upTo(8), "\x00", 0, api.OK},
		// With 8 erased places the last byte alone determines the block.
		{"\x00\x00\x00\x00\x00\x00\x00\x00\x18", upTo(8), "\x01", 8, api.OK},
		{nine, upTo(9), "", 0, api.ErrBlock},
		{"\x01\xff\x0b\x51\x36\xef\xad\xc8\x18", upTo(9), "", 0, api.ErrBlock},
		{nine, []int{9}, "", 0, api.ErrArg},
		{nine, []int{-1}, "", 0, api.ErrArg},
	} {
		if data, n, e := block.Decode(c.b, c.erased); data != c.data || n != c.n || e != c.e {
			t.Errorf("Decode(%x, %v) = %x, %d, %d, not %x, %d, %d", c.b, c.erased, data, n, e, c.data, c.n, c.e)
		}
	}
}

// Words near and far from code blocks with one or two data bytes, by the definition, with every number of erased places.
func TestP5_2All(t *testing.T) {
	r := rand.New(rand.NewSource(52))
	for _, c := range []struct{ k, trials int }{{1, 800}, {2, 12}} {
		k, blocks := c.k, allBlocks(c.k)
		for f := range k + 9 {
			for range c.trials {
				erased := anyPlaces(r, f, k+8)
				b := changed(r, blocks[r.Intn(len(blocks))], anyPlaces(r, r.Intn(7), k+8))
				b = changed(r, b, erased[:r.Intn(f+1)])
				erased = repeated(r, erased)
				data, n, e := block.Decode(b, erased)
				if want, m, x := wantDecode(blocks, b, erased); data != want || n != m || e != x {
					t.Fatalf("Decode(%x, %v) = %x, %d, %d, not %x, %d, %d", b, erased, data, n, e, want, m, x)
				}
			}
		}
	}
}

// split returns some different places of n: so many that are erased, and so many others.
func split(r *rand.Rand, erased, others, n int) ([]int, []int) {
	all := anyPlaces(r, erased+others, n)
	return all[:erased], all[erased:]
}

// checkNear checks what is returned for a code block that has become another word and is near enough.
func checkNear(t *testing.T, c, b string, erased []int) {
	t.Helper()
	_, count := distance(b, c, nil)
	if data, n, e := block.Decode(b, erased); data != c[:len(c)-8] || n != count || e != api.OK {
		t.Fatalf("Decode(%x, %v) = %x, %d, %d, not %x, %d", b, erased, data, n, e, c[:len(c)-8], count)
	}
}

// Each number of erased places with the greatest number of others that is corrected, and smaller ones.
func TestP5_2Near(t *testing.T) {
	r := rand.New(rand.NewSource(522))
	for _, k := range []int{1, 2, 3, 8, 9, 50, 127, 128, 222, 223} {
		for f := range 9 {
			for others := range (8-f)/2 + 1 {
				for range 3 {
					c := wantBlock(anyData(r, k))
					erased, wrong := split(r, f, others, k+8)
					b := changed(r, c, wrong)
					checkNear(t, c, b, repeated(r, erased))
					checkNear(t, c, changed(r, b, erased), repeated(r, erased))
					checkNear(t, c, changed(r, b, erased[:f/2]), erased)
				}
			}
		}
	}
}

// One wrong place in each length, and at each place of the longest one.
func TestP5_2Places(t *testing.T) {
	r := rand.New(rand.NewSource(523))
	for k := 1; k <= 223; k++ {
		c := wantBlock(anyData(r, k))
		checkNear(t, c, changed(r, c, []int{r.Intn(k + 8)}), nil)
	}
	c := wantBlock(anyData(r, 223))
	for place := range c {
		checkNear(t, c, changed(r, c, []int{place}), nil)
		checkNear(t, c, changed(r, c, []int{place, (place + 57) % 231}), []int{place})
	}
}

// checkFar checks that what is returned for any word is as the definition says, if it is anything.
func checkFar(t *testing.T, b string, erased []int) bool {
	t.Helper()
	data, n, e := block.Decode(b, erased)
	switch e {
	case api.OK:
		c := wantBlock(data)
		if len(c) != len(b) || !isNear(b, c, erased) {
			t.Fatalf("Decode(%x, %v) = %x: too far away", b, erased, data)
		}
		if _, count := distance(b, c, nil); n != count {
			t.Fatalf("Decode(%x, %v) = %x, %d, not %d", b, erased, data, n, count)
		}
	case api.ErrBlock:
		if data != "" || n != 0 {
			t.Fatalf("Decode(%x, %v) = %x, %d, %d", b, erased, data, n, e)
		}
	default:
		t.Fatalf("Decode(%x, %v): the error %d", b, erased, e)
	}
	return e == api.OK
}

// More wrong places than are corrected: most words are refused, and the others have become near to another code block.
func TestP5_2Far(t *testing.T) {
	r := rand.New(rand.NewSource(524))
	refused := 0
	for range 100 {
		for f := range 9 {
			k := 2 + r.Intn(30)
			if r.Intn(10) == 0 {
				k = 200 + r.Intn(24)
			}
			erased, wrong := split(r, f, (8-f)/2+1, k+8)
			c := wantBlock(anyData(r, k))
			if !checkFar(t, changed(r, changed(r, c, wrong), erased), erased) {
				refused++
			}
		}
	}
	if refused < 600 {
		t.Errorf("only %d of 900 words were refused", refused)
	}
}

// A code block whose first bytes are missing is near a block in which they are 0: these places do not exist.
func TestP5_2Missing(t *testing.T) {
	r := rand.New(rand.NewSource(525))
	refused := 0
	for range 100 {
		for missing := 1; missing <= 4; missing++ {
			k := 2 + r.Intn(20)
			c := changed(r, strings.Repeat("\x00", missing), upTo(missing)) + anyData(r, k)
			b := wantBlock(c)[missing:]
			b = changed(r, b, anyPlaces(r, 4-missing, len(b)))
			if !checkFar(t, b, nil) {
				refused++
			}
		}
	}
	// Also beyond the greatest length: the element of the missing place is different from all others still.
	for _, missing := range []int{1, 2, 24} {
		c := changed(r, strings.Repeat("\x00", missing), []int{0}) + anyData(r, 223)
		if !checkFar(t, wantBlock(c)[missing:], nil) {
			refused++
		}
	}
	if refused < 300 {
		t.Errorf("only %d of 403 words were refused", refused)
	}
}

func TestP5_2Erased(t *testing.T) {
	r := rand.New(rand.NewSource(526))
	for _, k := range []int{1, 2, 30, 223} {
		c := wantBlock(anyData(r, k))
		for f := 9; f <= k+8; f += 1 + f/3 {
			if data, n, e := block.Decode(c, anyPlaces(r, f, k+8)); data != "" || n != 0 || e != api.ErrBlock {
				t.Errorf("Decode of a code block of %d bytes with %d erased places: %x, %d, %d", k+8, f, data, n, e)
			}
		}
	}
}

func TestP5_2Limit(t *testing.T) {
	for _, n := range []int{0, 1, 7, 8, 232, 233, 255, 256, 1 << 16} {
		for _, erased := range [][]int{nil, {0}, {n}, upTo(9)} {
			if data, m, e := block.Decode(strings.Repeat("\x00", n), erased); data != "" || m != 0 || e != api.ErrArg {
				t.Errorf("Decode of %d bytes, %v: %d bytes, %d, %d", n, erased, len(data), m, e)
			}
		}
	}
	for _, n := range []int{9, 10, 231} {
		b := strings.Repeat("\x00", n)
		if data, m, e := block.Decode(b, []int{0, n - 1}); data != b[8:] || m != 0 || e != api.OK {
			t.Errorf("Decode of %d bytes: %d bytes, %d, %d", n, len(data), m, e)
		}
		for _, place := range []int{-1, n, n + 1, math.MinInt, math.MaxInt, 1 << 32} {
			// Also where there is another error: 9 erased places.
			for _, erased := range [][]int{{place}, {0, place}, {place, 0}, append(upTo(9), place), append([]int{place}, upTo(9)...)} {
				if data, m, e := block.Decode(b, erased); data != "" || m != 0 || e != api.ErrArg {
					t.Errorf("Decode of %d bytes, %v: %d bytes, %d, %d", n, erased, len(data), m, e)
				}
			}
		}
	}
}

// wantUnwrap decodes each code block by itself.
func wantUnwrap(b string, depth int, erased []int) (string, string, api.Errno) {
	n := len(b) - 8*depth
	parts, places := make([]string, depth), make([][]int, depth)
	for i := range len(b) {
		j := i % depth
		if i >= n {
			j = (i - n) % depth
		}
		if slices.Contains(erased, i) {
			places[j] = append(places[j], len(parts[j]))
		}
		parts[j] += b[i : i+1]
	}
	data, counts, lost := make([]byte, n), make([]int, depth), false
	for j, part := range parts {
		d, m, e := block.Decode(part, places[j])
		counts[j] = m
		if e != api.OK {
			counts[j], lost = -1, true
		}
		for i := range len(d) {
			data[i*depth+j] = d[i]
		}
	}
	if lost {
		return "", fmt.Sprint(counts), api.ErrBlock
	}
	return string(data), fmt.Sprint(counts), api.OK
}

func checkUnwrap(t *testing.T, b string, depth int, erased []int) api.Errno {
	t.Helper()
	data, counts, e := block.Unwrap(b, depth, erased)
	if want, m, x := wantUnwrap(b, depth, erased); data != want || fmt.Sprint(counts) != m || e != x {
		t.Fatalf("Unwrap(%x, %d, %v) = %x, %v, %d, not %x, %s, %d", b, depth, erased, data, counts, e, want, m, x)
	}
	return e
}

func TestP5_4Examples(t *testing.T) {
	two := "\x01\x00\xff\x00\x0b\x00\x51\x00\x36\x00\xef\x00\xad\x00\xc8\x00\x18\x00"
	// The bytes of the first code block alone are wrong, at 5 places.
	five := "\x01\x00\xff\x00\x0b\x00\x51\x00\x37\x00\xee\x00\xac\x00\xc9\x00\x19\x00"
	for _, c := range []struct {
		b      string
		depth  int
		erased []int
		data   string
		counts string
		e      api.Errno
	}{
		{strings.Repeat("\x00", 18), 2, nil, "\x00\x00", "[0 0]", api.OK},
		{"\x01\xff\x0b\x51\x00\x00\x00\x00\x18", 1, nil, "\x01", "[4]", api.OK},
		{two, 2, nil, "\x01\x00", "[0 0]", api.OK},
		{"\x01\x00\x00\x00\x00\x00" + two[6:], 2, nil, "\x01\x00", "[2 0]", api.OK},
		{"\x01\x00\x00\x01\x00\x01" + two[6:], 2, nil, "\x01\x00", "[2 2]", api.OK},
		{five, 2, nil, "", "[-1 0]", api.ErrBlock},
		{five, 2, []int{8, 10}, "\x01\x00", "[5 0]", api.OK},
		{five, 2, []int{9, 11}, "", "[-1 0]", api.ErrBlock},
		{two, 2, upTo(18), "", "[-1 -1]", api.ErrBlock},
		{two, 2, []int{1, 3, 5, 7, 9, 11, 13, 15, 17}, "", "[0 -1]", api.ErrBlock},
		{two, 2, upTo(16), "\x01\x00", "[0 0]", api.OK},
		{two, 2, []int{18}, "", "[]", api.ErrArg},
		{two, 2, []int{-1}, "", "[]", api.ErrArg},
		{two[:17], 2, nil, "", "[]", api.ErrArg},
		{two, 3, nil, "", "[]", api.ErrArg},
		{two, 0, nil, "", "[]", api.ErrArg},
		{two, 5, nil, "", "[]", api.ErrArg},
	} {
		data, counts, e := block.Unwrap(c.b, c.depth, c.erased)
		if data != c.data || fmt.Sprint(counts) != c.counts || e != c.e {
			t.Errorf("Unwrap(%x, %d, %v) = %x, %v, %d, not %x, %s, %d", c.b, c.depth, c.erased, data, counts, e, c.data, c.counts, c.e)
		}
	}
}

// Words of every length at each depth, with wrong and erased places of which there are often too many for some code blocks.
func TestP5_4All(t *testing.T) {
	r := rand.New(rand.NewSource(54))
	results := map[api.Errno]int{}
	for depth := 1; depth <= 4; depth++ {
		for n := depth; n <= 223*depth; n += 1 + n/20 {
			data := anyData(r, n)
			b, e := block.Wrap(data, depth)
			if e != api.OK {
				t.Fatalf("Wrap(%x, %d): the error %d", data, depth, e)
			}
			if d, counts, e := block.Unwrap(b, depth, nil); d != data || !slices.Equal(counts, make([]int, depth)) || e != api.OK {
				t.Fatalf("Unwrap(%x, %d) = %x, %v, %d, not %x", b, depth, d, counts, e, data)
			}
			wrong := anyPlaces(r, r.Intn(5*depth), len(b))
			erased := anyPlaces(r, r.Intn(4*depth), len(b))
			results[checkUnwrap(t, changed(r, b, wrong), depth, nil)]++
			results[checkUnwrap(t, changed(r, b, wrong), depth, repeated(r, erased))]++
			results[checkUnwrap(t, changed(r, b, wrong), depth, repeated(r, wrong))]++
		}
	}
	if results[api.OK] < 100 || results[api.ErrBlock] < 100 {
		t.Errorf("only these results: %v", results)
	}
}

func TestP5_4Limit(t *testing.T) {
	for depth := 1; depth <= 4; depth++ {
		for _, n := range []int{0, 1, 8 * depth, 9*depth - 1, 231*depth + 1, 255 * depth, 1 << 16} {
			for _, erased := range [][]int{nil, {0}, {n}} {
				if data, counts, e := block.Unwrap(strings.Repeat("\x00", n), depth, erased); data != "" || len(counts) != 0 || e != api.ErrArg {
					t.Errorf("Unwrap of %d bytes, depth %d, %v: %d bytes, %v, %d", n, depth, erased, len(data), counts, e)
				}
			}
		}
		for _, n := range []int{9 * depth, 9*depth + 1, 231*depth - 1, 231 * depth} {
			b := strings.Repeat("\x00", n)
			if data, counts, e := block.Unwrap(b, depth, []int{0, n - 1}); data != b[8*depth:] || !slices.Equal(counts, make([]int, depth)) || e != api.OK {
				t.Errorf("Unwrap of %d bytes, depth %d: %d bytes, %v, %d", n, depth, len(data), counts, e)
			}
			for _, place := range []int{-1, n, n + 1, math.MinInt, math.MaxInt, 1 << 32} {
				for _, erased := range [][]int{{place}, {0, place}, {place, 0}, append(upTo(n), place)} {
					if data, counts, e := block.Unwrap(b, depth, erased); data != "" || len(counts) != 0 || e != api.ErrArg {
						t.Errorf("Unwrap of %d bytes, depth %d, %d: %d bytes, %v, %d", n, depth, place, len(data), counts, e)
					}
				}
			}
		}
	}
	for _, depth := range []int{0, -1, 5, 6, 1 << 32, math.MinInt, math.MaxInt} {
		for _, n := range []int{0, 9, 45, 54, 231, 1000} {
			if data, counts, e := block.Unwrap(strings.Repeat("\x00", n), depth, nil); data != "" || len(counts) != 0 || e != api.ErrArg {
				t.Errorf("Unwrap of %d bytes, depth %d: %d bytes, %v, %d", n, depth, len(data), counts, e)
			}
		}
	}
}
