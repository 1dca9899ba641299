package viterbi_test

import (
	"fmt"
	"math/rand"
	"slices"
	"strings"
	"sync"
	"testing"

	"perigee/api"
	"perigee/viterbi"
)

// R1: every function returns for all arguments.
func TestRuleReturns(t *testing.T) {
	r := rand.New(rand.NewSource(1))
	var lists [][]int
	for _, k := range []int{0, 1, 2, 11, 12, 13, 28, 29, 44, 17612, 17613, 17628, 1 << 18} {
		lists = append(lists, make([]int, k), anyList(r, k, kinds()[0]), anyList(r, k, noSoft()), anyList(r, k, []int{-9, -8, 7, 8}))
	}
	for _, soft := range append(lists, nil) {
		for _, n := range append(noLengths(), 0, 1, 2, 1099, 1100) {
			viterbi.Decode(soft, n)
		}
		for _, n := range []int{0, 1, 2, 1099, 1100, 1101, 1 << 16} {
			viterbi.Score(soft, anyMessage(r, n))
		}
	}
	for _, n := range []int{0, 1, 2, 17612, 1 << 20} {
		for _, c := range []string{"\x00", "\x01", "\x02", "\xff"} {
			viterbi.Soften(strings.Repeat(c, n))
		}
		viterbi.Soften(anyMessage(r, n))
	}
}

// R2: with an error the other results are zero.
func TestRuleErrors(t *testing.T) {
	r := rand.New(rand.NewSource(2))
	errors := map[api.Errno]int{}
	for range 2000 {
		n, k := r.Intn(5)-1, []int{0, 12, 28, 28, 44}[r.Intn(5)]
		soft := anyList(r, k, kinds()[0])
		if k > 0 && r.Intn(3) == 0 {
			soft[r.Intn(k)] = anyList(r, 1, noSoft())[0]
		}
		data, sum, e := viterbi.Decode(soft, n)
		if e != api.OK && (data != "" || sum != 0) || e == api.OK && len(data) != n {
			t.Fatalf("Decode(%v, %d): the error %d, and %x, %d", soft, n, e, data, sum)
		}
		total, f := viterbi.Score(soft, anyMessage(r, max(0, n)))
		if f != api.OK && total != 0 || n >= 0 && e != f {
			t.Fatalf("Score(%v, ..), %d bytes: the error %d, and %d", soft, n, f, total)
		}
		symbols := string([]byte{byte(r.Intn(2)), byte(r.Intn(2)), byte(r.Intn(3))})
		l, g := viterbi.Soften(symbols)
		if g != api.OK && len(l) != 0 || g == api.OK && len(l) != 3 {
			t.Fatalf("Soften(%x): the error %d, and %v", symbols, g, l)
		}
		errors[e]++
		errors[g]++
	}
	if errors[api.OK] < 200 || errors[api.ErrArg] < 200 || errors[api.ErrForm] < 200 {
		t.Errorf("only these errors: %v", errors)
	}
}

// R3: lists are neither changed nor kept, nor what stands behind them in memory, and results are new memory.
func TestRuleArguments(t *testing.T) {
	r := rand.New(rand.NewSource(3))
	whole := anyList(r, 100, kinds()[0])
	all := slices.Clone(whole)
	for k := range len(all) + 1 {
		for n := range 6 {
			viterbi.Decode(all[:k], n)
			viterbi.Score(all[:k], anyMessage(r, n))
		}
		if !slices.Equal(all, whole) {
			t.Fatalf("with %d values, the list %v has become %v", k, whole, all)
		}
	}
	data, sum, _ := viterbi.Decode(all[:92], 5)
	want, most := bestPath(whole[:92], 5)
	clear(all)
	if data != want || sum != most {
		t.Errorf("%x, %d, not %x, %d", data, sum, want, most)
	}
	symbols := listed("0110")
	first, _ := viterbi.Soften(symbols)
	clear(first)
	first = append(first, 1)
	second, _ := viterbi.Soften(symbols)
	if len(first) != 5 || !slices.Equal(second, []int{-7, 7, 7, -7}) {
		t.Errorf("the list %v, and after it was changed %v", first, second)
	}
}

// R4: a list may be nil or empty.
func TestRuleEmpty(t *testing.T) {
	for n := -1; n < 3; n++ {
		data, sum, e := viterbi.Decode(nil, n)
		other, total, f := viterbi.Decode([]int{}, n)
		if data != other || sum != total || e != f || e != api.ErrArg {
			t.Errorf("Decode(nil, %d) = %x, %d, %d, and with an empty list %x, %d, %d", n, data, sum, e, other, total, f)
		}
		bytes := strings.Repeat("a", max(0, n))
		sum, e = viterbi.Score(nil, bytes)
		total, f = viterbi.Score([]int{}, bytes)
		if sum != total || e != f || e != api.ErrArg {
			t.Errorf("Score(nil, %q) = %d, %d, and with an empty list %d, %d", bytes, sum, e, total, f)
		}
	}
	if l, e := viterbi.Soften(""); len(l) != 0 || e != api.OK {
		t.Errorf("Soften of no symbols: %v, %d", l, e)
	}
}

// allResults returns what each function returns for a few arguments.
func allResults() string {
	r := rand.New(rand.NewSource(6))
	var l []any
	for n := range 6 {
		for _, values := range kinds() {
			soft := anyList(r, 16*n+12, values)
			data, sum, e := viterbi.Decode(soft, n)
			total, f := viterbi.Score(soft, anyMessage(r, n))
			symbols, g := viterbi.Soften(string([]byte{0, 1, byte(n)}))
			l = append(l, data, sum, e, total, f, symbols, g)
		}
		_, _, e := viterbi.Decode(make([]int, 28), n)
		l = append(l, e)
	}
	return fmt.Sprintf("%x", l)
}

// R6: results do not depend on earlier calls, nor on calls at the same time.
func TestRuleNoState(t *testing.T) {
	first := allResults()
	for range 20 {
		if again := allResults(); again != first {
			t.Fatalf("first %s, then %s", first, again)
		}
	}
	var wait sync.WaitGroup
	for range 8 {
		wait.Go(func() {
			if again := allResults(); again != first {
				t.Errorf("at the same time %s, not %s", again, first)
			}
		})
	}
	wait.Wait()
}
