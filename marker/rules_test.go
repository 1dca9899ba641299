package marker_test

import (
	"fmt"
	"math/rand"
	"slices"
	"strings"
	"sync"
	"testing"

	"perigee/api"
	"perigee/marker"
)

// R1: every function returns for all arguments.
func TestRuleReturns(t *testing.T) {
	r := rand.New(rand.NewSource(1))
	var lists [][]int
	for _, k := range []int{0, 1, 2, 31, 32, 33, 34, 100, 20032, 1 << 18} {
		lists = append(lists, make([]int, k), anySoft(r, k), slices.Repeat(noSoft(), k/16), slices.Repeat([]int{-8}, k))
	}
	finders := []*marker.Finder{nil, {}}
	for _, length := range append(noLengths(), 1, 2, 3, 32, 20000) {
		marker.Sequence(length)
		f, _ := marker.New(length)
		finders = append(finders, f)
	}
	for _, f := range finders {
		for _, soft := range append(lists, nil) {
			f.Feed(soft)
			f.Locked()
			f.At()
		}
	}
	for _, n := range []int{0, 1, 2, 20000, 20001, 65536, 65537, 1 << 24} {
		for _, b := range []string{strings.Repeat("\x00", n), strings.Repeat("\xff", n), anyBytes(r, n)} {
			marker.Mix(b)
			marker.Attach(b)
		}
	}
}

// R2: with an error the other result is zero, and the object is as before.
func TestRuleErrors(t *testing.T) {
	r := rand.New(rand.NewSource(2))
	errors := map[api.Errno]int{}
	f := newFinder(t, 40)
	var stream []int
	var blocks []api.Block
	for range 2000 {
		list := anyStream(r, 40, 1)
		if r.Intn(3) == 0 {
			list = append(list, noSoft()[r.Intn(len(noSoft()))])
		}
		l, e := f.Feed(list)
		if e != api.OK && len(l) != 0 {
			t.Fatalf("Feed(%v): %v, %d", list, l, e)
		}
		if e == api.OK {
			stream = append(stream, list...)
			blocks = append(blocks, l...)
		}
		errors[e]++
		s, e := marker.Sequence(65530 + r.Intn(13))
		if (e == api.OK) != (s != "") {
			t.Fatalf("Sequence: %d bytes, %d", len(s), e)
		}
		errors[e]++
		s, e = marker.Attach(string([]byte{byte(r.Intn(3))}))
		if (e == api.OK) != (s != "") {
			t.Fatalf("Attach: %d symbols, %d", len(s), e)
		}
		errors[e]++
	}
	if want, locked := wantFound(stream, 40); !sameBlocks(blocks, want) || f.Locked() != locked || f.At() != int64(len(stream)) {
		t.Errorf("%d blocks, not %d, %v, %d", len(blocks), len(want), f.Locked(), f.At())
	}
	if errors[api.OK] < 1000 || errors[api.ErrArg] < 1000 || errors[api.ErrForm] < 500 || len(blocks) < 500 {
		t.Errorf("only these errors: %v, and %d blocks", errors, len(blocks))
	}
}

// R3: a list is neither changed nor kept, nor what stands behind it in memory; what the caller does with blocks changes neither the finder nor other blocks.
func TestRuleArguments(t *testing.T) {
	r := rand.New(rand.NewSource(3))
	for range 100 {
		length := 1 + r.Intn(40)
		stream := anyStream(r, length, 30)
		f := newFinder(t, length)
		var blocks, want []api.Block
		for from := 0; from < len(stream); {
			to := min(len(stream), from+r.Intn(200))
			list := slices.Clone(stream[from:])
			l := fed(t, f, list[:to-from])
			if !slices.Equal(list, stream[from:]) {
				t.Fatalf("the list has become %v", list)
			}
			clear(list)
			for i, b := range l {
				want = append(want, api.Block{At: b.At, Wrong: b.Wrong, Soft: slices.Clone(b.Soft)})
				// What is put behind a block must not stand in the next one.
				l[i].Soft = append(b.Soft, 99)[:length]
			}
			for i, b := range l {
				if !slices.Equal(b.Soft, want[len(want)-len(l)+i].Soft) {
					t.Fatalf("the block %d has become %v", i, b)
				}
				clear(b.Soft)
			}
			blocks = append(blocks, l...)
			from = to
		}
		if all, _ := wantFound(stream, length); !sameBlocks(want, all) {
			t.Fatalf("%d blocks, not %d", len(want), len(all))
		}
		for _, b := range blocks {
			if slices.ContainsFunc(b.Soft, func(value int) bool { return value != 0 }) {
				t.Fatalf("a block that was cleared has become %v", b)
			}
		}
	}
}

// R4: a list may be nil or empty.
func TestRuleEmpty(t *testing.T) {
	f := newFinder(t, 3)
	var blocks []api.Block
	for i, value := range attached(t, listed("101")) {
		for _, none := range [][]int{nil, {}} {
			locked := f.Locked()
			if l := fed(t, f, none); len(l) != 0 || f.At() != int64(i) || f.Locked() != locked {
				t.Fatalf("Feed(%v) before the value %d: %v, %v, %d", none, i, l, f.Locked(), f.At())
			}
		}
		blocks = append(blocks, fed(t, f, []int{value})...)
	}
	if !sameBlocks(blocks, []api.Block{{At: 0, Soft: []int{7, -7, 7}}}) {
		t.Errorf("%v", blocks)
	}
	if s, e := marker.Mix(""); s != "" || e != api.OK {
		t.Errorf("Mix of no bytes: %x, %d", s, e)
	}
}

// R5: only what New returned is an object; the others do nothing, also when there was an object before.
func TestRuleObjects(t *testing.T) {
	zero := new(marker.Finder)
	f := newFinder(t, 2)
	fed(t, f, attached(t, "\x01\x00")[:33])
	double := new(*f)
	for _, other := range []*marker.Finder{nil, zero, double} {
		for range 3 {
			if l, e := other.Feed([]int{-7, 7, 7}); len(l) != 0 || e != api.ErrNil || other.Locked() || other.At() != 0 {
				t.Errorf("%v, %d, %v, %d", l, e, other.Locked(), other.At())
			}
		}
	}
	if l := fed(t, f, []int{-7}); !sameBlocks(l, []api.Block{{Soft: []int{7, -7}}}) {
		t.Errorf("the object itself: %v", l)
	}
}

// allResults returns what each function returns for a few arguments.
func allResults() string {
	r := rand.New(rand.NewSource(6))
	var l []any
	for n := range 6 {
		s, e := marker.Sequence(10*n - 1)
		m, g := marker.Mix(anyBytes(r, 10*n))
		a, h := marker.Attach(string([]byte{0, 1, byte(n)}))
		f, i := marker.New(5 * n)
		blocks, j := f.Feed(anyStream(r, max(1, 5*n), 20))
		l = append(l, s, e, m, g, a, h, i, blocks, j, f.Locked(), f.At())
	}
	return fmt.Sprintf("%x", l)
}

// R6: results do not depend on earlier calls, nor on calls at the same time.
func TestRuleNoState(t *testing.T) {
	first := allResults()
	for range 20 {
		if again := allResults(); again != first {
			t.Fatalf("first %s, then %s", first, again)
		}
	}
	var wait sync.WaitGroup
	for range 8 {
		wait.Go(func() {
			if again := allResults(); again != first {
				t.Errorf("at the same time %s, not %s", again, first)
			}
		})
	}
	wait.Wait()
}

// R6: finders that are fed by turns are independent.
func TestRuleIndependent(t *testing.T) {
	r := rand.New(rand.NewSource(66))
	var finders []*marker.Finder
	var streams [][]int
	var blocks [][]api.Block
	for i := range 10 {
		length := 1 + i/2*7
		finders = append(finders, newFinder(t, length))
		streams = append(streams, anyStream(r, length, 50))
		blocks = append(blocks, nil)
	}
	for step := range 50 {
		for i, f := range finders {
			n := len(streams[i])
			blocks[i] = append(blocks[i], fed(t, f, streams[i][step*n/50:(step+1)*n/50])...)
		}
	}
	for i, f := range finders {
		if want, locked := wantFound(streams[i], 1+i/2*7); !sameBlocks(blocks[i], want) || f.Locked() != locked || f.At() != int64(len(streams[i])) {
			t.Errorf("the finder %d: %d blocks, not %d, %v, %d", i, len(blocks[i]), len(want), f.Locked(), f.At())
		}
	}
}
