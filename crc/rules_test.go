package crc_test

import (
	"fmt"
	"math/rand"
	"strings"
	"sync"
	"testing"

	"perigee/api"
	"perigee/crc"
)

// R1: every function returns for all arguments.
func TestRuleReturns(t *testing.T) {
	r := rand.New(rand.NewSource(1))
	lengths := append(noLengths(), 0, 1, 2, 3, 1<<16, 1<<29, 1<<30-1, 1<<30)
	for range 300 {
		a, b := anySum(r), anySum(r)
		for _, n := range lengths {
			crc.Join16(uint16(a), uint16(b), n)
			crc.Join32(a, b, n)
		}
		s := anyString(r, r.Intn(6))
		crc.Next16(uint16(a), s)
		crc.Next32(a, s)
		crc.Open16(s)
		crc.Close16(s)
	}
	long := strings.Repeat("\xff\x00\x55", 1<<22)
	crc.Sum16(long)
	crc.Sum32(long)
	crc.Open16(long)
	crc.Open16(crc.Close16(long))
}

// R2: with an error the other result is zero.
func TestRuleErrors(t *testing.T) {
	r := rand.New(rand.NewSource(2))
	for range 20000 {
		a, b, n := anySum(r), anySum(r), r.Intn(1<<32)-1<<31
		x, e := crc.Join16(uint16(a), uint16(b), n)
		y, f := crc.Join32(a, b, n)
		if e != f || e != api.OK && (x != 0 || y != 0) {
			t.Fatalf("joined with %d bytes: %04x, %d and %08x, %d", n, x, e, y, f)
		}
		s := anyString(r, r.Intn(5))
		if c, e := crc.Open16(s); e != api.OK && c != "" {
			t.Fatalf("Open16(%x): the error %d, and %x", s, e, c)
		}
	}
}

// R3: bytes that stand behind an argument in memory have no effect, and strings that were returned do not change.
func TestRuleArguments(t *testing.T) {
	r := rand.New(rand.NewSource(3))
	b := anyString(r, 100)
	whole := strings.Clone(b)
	var closed []string
	for n := range len(b) {
		closed = append(closed, crc.Close16(b[:n]))
	}
	for n, s := range closed {
		if c, e := crc.Open16(s); c != whole[:n] || e != api.OK || s != wantClose16(whole[:n]) {
			t.Fatalf("the first %d bytes have become %x, closed %x, %d", n, c, s, e)
		}
	}
	if b != whole {
		t.Errorf("%x has become %x", whole, b)
	}
}

// allResults returns what each function returns for a few arguments.
func allResults() string {
	var l []any
	for i, b := range []string{"", "\x00", "\xff\xfe", "123456789"} {
		x, y := crc.Sum16(b), crc.Sum32(b)
		l = append(l, x, y, crc.Next16(x, b), crc.Next32(y, b), crc.Close16(b))
		s, e := crc.Open16(b)
		l = append(l, s, e)
		for _, n := range []int{-1, i, 1 << 30, 1<<30 + 1} {
			x, e := crc.Join16(x, 7, n)
			y, f := crc.Join32(y, 7, n)
			l = append(l, x, e, y, f)
		}
	}
	return fmt.Sprint(l...)
}

// R6: results do not depend on earlier calls, nor on calls at the same time.
func TestRuleNoState(t *testing.T) {
	first := allResults()
	for range 20 {
		if again := allResults(); again != first {
			t.Fatalf("first %s, then %s", first, again)
		}
	}
	var wait sync.WaitGroup
	for range 8 {
		wait.Go(func() {
			if again := allResults(); again != first {
				t.Errorf("at the same time %s, not %s", again, first)
			}
		})
	}
	wait.Wait()
}
