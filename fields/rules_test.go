package fields_test

import (
	"fmt"
	"math"
	"math/rand"
	"slices"
	"strings"
	"sync"
	"testing"

	"perigee/api"
	"perigee/fields"
)

// R1: every function returns for all arguments.
func TestRuleReturns(t *testing.T) {
	numbers := []int{math.MinInt, math.MinInt + 1, -1 << 32, -64, -1, 0, 1, 7, 8, 63, 64, 65, 1 << 32, 1 << 61, math.MaxInt - 63, math.MaxInt}
	texts := []string{"", "\x00", "\xff\xff", strings.Repeat("a", 65536), strings.Repeat("a", 65537)}
	for _, b := range texts {
		for _, at := range numbers {
			for _, width := range numbers {
				fields.Get(b, at, width)
				fields.Signed(b, at, width)
				fields.Put(b, at, width, math.MaxUint64)
				fields.PutSigned(b, at, width, math.MinInt64)
				fields.Unpack([]int{at, width}, b)
				fields.Pack([]int{at, width}, []uint64{0, math.MaxUint64})
			}
			fields.Flip(b, at)
			fields.Pack([]int{at}, nil)
			fields.Pack(nil, []uint64{uint64(at)})
		}
		for _, a := range texts {
			fields.Distance(a, b)
		}
	}
	fields.Pack(slices.Repeat([]int{math.MaxInt}, 100000), make([]uint64, 100000))
	fields.Unpack(slices.Repeat([]int{math.MinInt}, 100000), "")
}

// R2: with an error the other result is zero.
func TestRuleErrors(t *testing.T) {
	r := rand.New(rand.NewSource(2))
	check := func(name string, zero bool, e api.Errno) {
		t.Helper()
		if e != api.OK && !zero {
			t.Fatalf("%s: the error %d, and a result", name, e)
		}
	}
	for range 20000 {
		b, at, width := anyString(r, r.Intn(10)), r.Intn(80)-4, r.Intn(68)-2
		v, e := fields.Get(b, at, width)
		check("Get", v == 0, e)
		n, e := fields.Signed(b, at, width)
		check("Signed", n == 0, e)
		c, e := fields.Put(b, at, width, anyNumber(r))
		check("Put", c == "", e)
		c, e = fields.PutSigned(b, at, width, int64(anyNumber(r)))
		check("PutSigned", c == "", e)
		c, e = fields.Flip(b, at)
		check("Flip", c == "", e)
		d, e := fields.Distance(b, anyString(r, r.Intn(10)))
		check("Distance", d == 0, e)
		c, e = fields.Pack([]int{width, 9}, []uint64{anyNumber(r), uint64(r.Intn(600))})
		check("Pack", c == "", e)
		l, e := fields.Unpack([]int{width, 9}, b)
		check("Unpack", len(l) == 0, e)
	}
}

// R3: lists are not changed, nor is what lies behind them in memory.
func TestRuleArguments(t *testing.T) {
	r := rand.New(rand.NewSource(3))
	for range 2000 {
		widths, values := anyWidths(r, 4+r.Intn(10))
		n := len(widths) - 3
		widths2, values2 := slices.Clone(widths), slices.Clone(values)
		b, e := fields.Pack(widths[:n], values[:n])
		l, f := fields.Unpack(widths[:n], b)
		if !slices.Equal(widths, widths2) || !slices.Equal(values, values2) {
			t.Fatalf("%d and %d have become %d and %d", widths2, values2, widths, values)
		}
		if e != api.OK || f != api.OK || !slices.Equal(l, values[:n]) {
			t.Fatalf("Unpack of Pack(%d, %d) = %d, %d, %d", widths[:n], values[:n], l, e, f)
		}
	}
}

// R3: results are new memory.
func TestRuleNewResults(t *testing.T) {
	widths := []int{8, 8, 3}
	first, _ := fields.Unpack(widths, "abc"[:2]+"\x40")
	second, _ := fields.Unpack(widths, "abc"[:2]+"\x40")
	widths[0] = 99
	first[0], first[1], first[2] = 1, 2, 3
	_ = append(first, 4, 5)
	if !slices.Equal(second, []uint64{'a', 'b', 2}) {
		t.Errorf("the second result has become %d", second)
	}
	third, e := fields.Unpack([]int{8, 8, 3}, "abc"[:2]+"\x40")
	if !slices.Equal(third, []uint64{'a', 'b', 2}) || e != api.OK {
		t.Errorf("a third result is %d, %d", third, e)
	}
}

// R4: nil and an empty list mean the same.
func TestRuleEmpty(t *testing.T) {
	for _, widths := range [][]int{nil, {}, make([]int, 0, 4)} {
		for _, values := range [][]uint64{nil, {}, make([]uint64, 0, 4)} {
			if b, e := fields.Pack(widths, values); b != "" || e != api.OK {
				t.Errorf("Pack of no fields = %x, %d", b, e)
			}
			if b, e := fields.Pack([]int{1}, values); b != "" || e != api.ErrArg {
				t.Errorf("Pack of no values = %x, %d", b, e)
			}
		}
		if b, e := fields.Pack(widths, []uint64{0}); b != "" || e != api.ErrArg {
			t.Errorf("Pack of no widths = %x, %d", b, e)
		}
		if l, e := fields.Unpack(widths, ""); len(l) != 0 || e != api.OK {
			t.Errorf("Unpack of no fields = %d, %d", l, e)
		}
		if l, e := fields.Unpack(widths, "\x00"); len(l) != 0 || e != api.ErrForm {
			t.Errorf("Unpack of no fields from a byte = %d, %d", l, e)
		}
	}
}

// allResults returns what each function returns for a few arguments.
func allResults() string {
	var l []any
	add := func(v any, e api.Errno) { l = append(l, v, e) }
	for at := -1; at < 20; at++ {
		v, e := fields.Get("\xa5\xc3\x17", at, 9)
		add(v, e)
		n, e := fields.Signed("\xa5\xc3\x17", at, 9)
		add(n, e)
		b, e := fields.Put("\xa5\xc3\x17", at, 9, 300)
		add(b, e)
		b, e = fields.PutSigned("\xa5\xc3\x17", at, 9, -77)
		add(b, e)
		b, e = fields.Flip("\xa5\xc3\x17", at)
		add(b, e)
		d, e := fields.Distance("\xa5\xc3\x17", b)
		add(d, e)
		b, e = fields.Pack([]int{3, at, 5}, []uint64{7, 1, 30})
		add(b, e)
		w, e := fields.Unpack([]int{3, at, 5}, b)
		add(w, e)
	}
	return fmt.Sprint(l...)
}

// R6: results do not depend on earlier calls, nor on calls at the same time.
func TestRuleNoState(t *testing.T) {
	first := allResults()
	for range 20 {
		if again := allResults(); again != first {
			t.Fatalf("first %s, then %s", first, again)
		}
	}
	var wait sync.WaitGroup
	for range 8 {
		wait.Go(func() {
			if again := allResults(); again != first {
				t.Errorf("at the same time %s, not %s", again, first)
			}
		})
	}
	wait.Wait()
}
