package block_test

import (
	"fmt"
	"math"
	"math/rand"
	"slices"
	"strings"
	"sync"
	"testing"

	"perigee/api"
	"perigee/block"
)

// R1: every function returns for all arguments.
func TestRuleReturns(t *testing.T) {
	r := rand.New(rand.NewSource(1))
	lists := [][]int{nil, {}, {0}, {-1}, {8, 8, 8}, upTo(8), upTo(9), upTo(300), {math.MinInt, math.MaxInt}, slices.Repeat([]int{3}, 1<<16)}
	for _, n := range []int{0, 1, 7, 8, 9, 10, 17, 18, 27, 36, 45, 222, 223, 224, 230, 231, 232, 892, 924, 1 << 20} {
		for _, b := range []string{strings.Repeat("\x00", n), strings.Repeat("\xff", n), anyData(r, n)} {
			block.Encode(b)
			for _, erased := range lists {
				block.Decode(b, erased)
			}
			for _, depth := range []int{math.MinInt, -1, 0, 1, 2, 3, 4, 5, 1 << 62, math.MaxInt} {
				block.Wrap(b, depth)
				for _, erased := range lists {
					block.Unwrap(b, depth, erased)
				}
			}
		}
	}
}

// R2: with an error the other results are zero, but for the list of Unwrap with ErrBlock.
func TestRuleErrors(t *testing.T) {
	r := rand.New(rand.NewSource(2))
	errors := map[api.Errno]int{}
	for range 3000 {
		data, depth := anyData(r, r.Intn(60)), r.Intn(7)-1
		erased := anyPlaces(r, r.Intn(3), 60)
		if b, e := block.Encode(data); e != api.OK && b != "" {
			t.Fatalf("Encode(%x): the error %d, and %x", data, e, b)
		}
		if d, n, e := block.Decode(data, erased); e != api.OK && (d != "" || n != 0) {
			t.Fatalf("Decode(%x, %v): the error %d, and %x, %d", data, erased, e, d, n)
		}
		if b, e := block.Wrap(data, depth); e != api.OK && b != "" {
			t.Fatalf("Wrap(%x, %d): the error %d, and %x", data, depth, e, b)
		}
		d, counts, e := block.Unwrap(data, depth, erased)
		if e != api.OK && d != "" || e == api.ErrArg && len(counts) != 0 || e == api.ErrBlock && len(counts) != depth {
			t.Fatalf("Unwrap(%x, %d, %v): the error %d, and %x, %v", data, depth, erased, e, d, counts)
		}
		errors[e]++
	}
	if errors[api.ErrArg] < 100 || errors[api.ErrBlock] < 100 {
		t.Errorf("only these errors of Unwrap: %v", errors)
	}
}

// R3: the list of erased places is neither changed nor kept, nor what stands behind it in memory, and results stay as they are.
func TestRuleArguments(t *testing.T) {
	r := rand.New(rand.NewSource(3))
	data := anyData(r, 40)
	b, _ := block.Wrap(data, 2)
	w := changed(r, b, []int{3, 5, 50})
	all := []int{50, 5, 3, 3, 5, 7, 8, 1}
	whole := slices.Clone(all)
	for i := range len(all) + 1 {
		block.Decode(w, all[:i])
		block.Unwrap(w, 2, all[:i])
		if !slices.Equal(all, whole) {
			t.Fatalf("with %d erased places, the list %v has become %v", i, whole, all)
		}
	}
	d, counts, e := block.Unwrap(w, 2, all[:3])
	again, others, f := block.Unwrap(w, 2, all[:3])
	clear(all)
	for i := range counts {
		counts[i] = 99
	}
	if d != data || again != data || !slices.Equal(others, []int{1, 2}) || e != api.OK || f != api.OK {
		t.Errorf("the results %x, %d, and %x, %v, %d", d, e, again, others, f)
	}
}

// R4: a list may be nil or empty.
func TestRuleEmpty(t *testing.T) {
	r := rand.New(rand.NewSource(4))
	for range 100 {
		b, _ := block.Wrap(anyData(r, 20), 2)
		b = changed(r, b, anyPlaces(r, r.Intn(12), len(b)))
		d, n, e := block.Decode(b, nil)
		if x, m, f := block.Decode(b, []int{}); x != d || m != n || f != e {
			t.Fatalf("Decode(%x) = %x, %d, %d, and with an empty list %x, %d, %d", b, d, n, e, x, m, f)
		}
		d, l, e := block.Unwrap(b, 2, nil)
		if x, m, f := block.Unwrap(b, 2, []int{}); x != d || !slices.Equal(m, l) || f != e {
			t.Fatalf("Unwrap(%x) = %x, %v, %d, and with an empty list %x, %v, %d", b, d, l, e, x, m, f)
		}
	}
}

// allResults returns what each function returns for a few arguments.
func allResults() string {
	var l []any
	for _, data := range []string{"", "\x00", "\x01\x02", "123456789", strings.Repeat("abc", 70)} {
		b, e := block.Encode(data)
		l = append(l, b, e)
		for depth := range 6 {
			b, e := block.Wrap(data, depth)
			wrong := strings.ReplaceAll(strings.ReplaceAll(b, "b", "B"), "\x02", "\x03")
			l = append(l, b, e)
			for _, erased := range [][]int{nil, {2, 0}, {1, 4, 7, 10, 13}, upTo(9)} {
				d, n, e := block.Decode(wrong, erased)
				x, counts, f := block.Unwrap(wrong, depth, erased)
				l = append(l, d, n, e, x, counts, f)
			}
		}
	}
	return fmt.Sprintf("%x", l)
}

// R6: results do not depend on earlier calls, nor on calls at the same time.
func TestRuleNoState(t *testing.T) {
	first := allResults()
	for range 3 {
		if again := allResults(); again != first {
			t.Fatalf("first %s, then %s", first, again)
		}
	}
	var wait sync.WaitGroup
	for range 8 {
		wait.Go(func() {
			if again := allResults(); again != first {
				t.Errorf("at the same time %s, not %s", again, first)
			}
		})
	}
	wait.Wait()
}
