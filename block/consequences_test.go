package block_test

import (
	"fmt"
	"math/rand"
	"slices"
	"strings"
	"testing"

	"perigee/api"
	"perigee/block"
)

// Data that differ in one byte: all the parity bytes differ.
func TestP5_5One(t *testing.T) {
	r := rand.New(rand.NewSource(55))
	for k := 1; k <= 223; k++ {
		data := anyData(r, k)
		b, e := block.Encode(data)
		for range 10 {
			c, f := block.Encode(changed(r, data, anyPlaces(r, 1, k)))
			if e != api.OK || f != api.OK {
				t.Fatalf("Encode of %d bytes: %d, %d", k, e, f)
			}
			if _, n := distance(b, c, nil); n != 9 {
				t.Fatalf("%x and %x differ in %d places", b, c, n)
			}
		}
	}
}

func TestP5_5Few(t *testing.T) {
	r := rand.New(rand.NewSource(551))
	for range 5000 {
		k := 1 + r.Intn(30)
		data := anyData(r, k)
		b, e := block.Encode(data)
		c, f := block.Encode(changed(r, data, anyPlaces(r, 1+r.Intn(min(k, 9)), k)))
		if e != api.OK || f != api.OK {
			t.Fatalf("Encode of %d bytes: %d, %d", k, e, f)
		}
		if _, n := distance(b, c, nil); n < 9 {
			t.Fatalf("%x and %x differ in %d places", b, c, n)
		}
	}
}

// A word between two code blocks that differ in 9 places: as near to one of them as is allowed, and one place too far from the other one.
func TestP5_5Between(t *testing.T) {
	r := rand.New(rand.NewSource(552))
	for k := 1; k <= 223; k += 1 + k/5 {
		data := anyData(r, k)
		c := wantBlock(data)
		other := wantBlock(changed(r, data, anyPlaces(r, 1, k)))
		var places []int
		for i := range c {
			if c[i] != other[i] {
				places = append(places, i)
			}
		}
		r.Shuffle(len(places), func(i, j int) { places[i], places[j] = places[j], places[i] })
		for f := range 9 {
			// The places in which the word is like the other block: all those that are erased, and as many others as may be wrong.
			b := []byte(c)
			for _, place := range places[:f+(8-f)/2] {
				b[place] = other[place]
			}
			checkNear(t, c, string(b), places[:f])
		}
	}
}

func TestP5_6Corrected(t *testing.T) {
	r := rand.New(rand.NewSource(56))
	for range 20 {
		for f := range 9 {
			for wrong := 0; 2*wrong+f <= 8; wrong++ {
				data := anyData(r, 1+r.Intn(223))
				b, e := block.Encode(data)
				erased, others := split(r, f, wrong, len(b))
				w := changed(r, changed(r, b, others), erased)
				if d, n, x := block.Decode(w, erased); d != data || n != f+wrong || e != api.OK || x != api.OK {
					t.Fatalf("%x with the places %v erased and %v wrong: %x, %d, %d", b, erased, others, d, n, x)
				}
			}
		}
	}
}

func TestP5_6Sum(t *testing.T) {
	r := rand.New(rand.NewSource(561))
	sum := func(a, b string) string {
		s := []byte(a)
		for i := range s {
			s[i] ^= b[i]
		}
		return string(s)
	}
	for k := 1; k <= 223; k++ {
		x, y := anyData(r, k), anyData(r, k)
		a, _ := block.Encode(x)
		b, _ := block.Encode(y)
		c, e := block.Encode(sum(x, y))
		if c != sum(a, b) || !isBlock(c) || e != api.OK {
			t.Fatalf("%x and %x: the sum of the data has the block %x", a, b, c)
		}
		if d, n, e := block.Decode(sum(a, b), nil); d != sum(x, y) || n != 0 || e != api.OK {
			t.Fatalf("Decode of the sum of %x and %x: %x, %d, %d", a, b, d, n, e)
		}
	}
}

// Bursts of 4 depth bytes at each place of the data, and at each place of the parity bytes.
func TestP5_6Burst(t *testing.T) {
	r := rand.New(rand.NewSource(562))
	for depth := 1; depth <= 4; depth++ {
		for _, n := range []int{4 * depth, 4*depth + 1, 9*depth - 1, 30} {
			data := anyData(r, n)
			b, e := block.Wrap(data, depth)
			if e != api.OK {
				t.Fatalf("Wrap(%x, %d): the error %d", data, depth, e)
			}
			for start := 0; start+4*depth <= len(b); start++ {
				if start < n && start+4*depth > n {
					continue
				}
				burst := upTo(start + 4*depth)[start:]
				w := changed(r, b, burst)
				want := slices.Repeat([]int{4}, depth)
				if d, counts, e := block.Unwrap(w, depth, nil); d != data || !slices.Equal(counts, want) || e != api.OK {
					t.Fatalf("Unwrap(%x, %d), wrong from %d on: %x, %v, %d", b, depth, start, d, counts, e)
				}
				w = changed(r, b, burst[:1+r.Intn(4*depth)])
				if d, counts, e := block.Unwrap(w, depth, nil); d != data || e != api.OK {
					t.Fatalf("Unwrap(%x, %d), some wrong from %d on: %x, %v, %d", b, depth, start, d, counts, e)
				}
			}
		}
	}
}

// The longest strings that can be wrapped, with bursts.
func TestP5_6Long(t *testing.T) {
	r := rand.New(rand.NewSource(563))
	for depth := 1; depth <= 4; depth++ {
		data := anyData(r, 223*depth)
		b, e := block.Wrap(data, depth)
		for _, start := range []int{0, 100 * depth, 219 * depth, 223 * depth, 227 * depth} {
			w := changed(r, b, upTo(start + 4*depth)[start:])
			d, counts, f := block.Unwrap(w, depth, nil)
			if d != data || fmt.Sprint(counts) != "["+strings.Repeat("4 ", depth-1)+"4]" || e != api.OK || f != api.OK {
				t.Errorf("depth %d, wrong from %d on: %v, %d, %d", depth, start, counts, e, f)
			}
		}
	}
}
