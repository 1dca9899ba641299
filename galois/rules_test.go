package galois_test

import (
	"fmt"
	"math"
	"math/rand"
	"strings"
	"sync"
	"testing"

	"perigee/api"
	"perigee/galois"
)

// R1: every function returns for all arguments.
func TestRuleReturns(t *testing.T) {
	zeros, long := strings.Repeat("\x00", 1<<16), strings.Repeat("\x80\x01\x00", 700)
	texts := []string{"", "\x00", "\xff", "\x00\xff", "\xff\x00", "\x01\x02\x03", zeros, zeros + "\x01", long, long + zeros}
	for _, p := range texts {
		galois.Degree(p)
		galois.Derived(p)
		for _, x := range []byte{0, 1, 2, 255} {
			galois.Eval(p, x)
		}
		for _, q := range texts {
			galois.Sum(p, q)
			galois.Product(p, q)
			galois.Quotient(p, q)
		}
	}
	for a := range 256 {
		galois.Log(byte(a))
		for _, n := range []int{math.MinInt, math.MinInt + 1, -1 << 32, -256, -255, -254, -1, 0, 1, 254, 255, 256, 1 << 32, math.MaxInt - 1, math.MaxInt} {
			galois.Pow(byte(a), n)
		}
		for b := range 256 {
			galois.Mul(byte(a), byte(b))
			galois.Div(byte(a), byte(b))
		}
	}
}

// R2: with an error, or with false, the other results are zero.
func TestRuleErrors(t *testing.T) {
	r := rand.New(rand.NewSource(2))
	for range 20000 {
		a, b, n := anyElement(r), anyElement(r), r.Intn(20)-10
		if x, e := galois.Div(a, b); e != api.OK && x != 0 {
			t.Fatalf("Div(%02x, %02x): the error %d, and %02x", a, b, e, x)
		}
		if x, e := galois.Pow(a, n); e != api.OK && x != 0 {
			t.Fatalf("Pow(%02x, %d): the error %d, and %02x", a, n, e, x)
		}
		if k, ok := galois.Log(a); !ok && k != 0 {
			t.Fatalf("Log(%02x): none, and %d", a, k)
		}
		p, q := anyPolynomial(r, r.Intn(4)), anyPolynomial(r, r.Intn(4))
		if x, y, e := galois.Quotient(p, q); e != api.OK && x+y != "" {
			t.Fatalf("Quotient(%x, %x): the error %d, and %x, %x", p, q, e, x, y)
		}
	}
	for n := range 30 {
		p, q := full(r, 1000+n), full(r, 40-n)
		if s, e := galois.Product(p, q); e != api.OK && s != "" {
			t.Fatalf("the product of %d and %d bytes: the error %d, and %d bytes", len(p), len(q), e, len(s))
		}
	}
}

// R3: bytes that stand behind an argument in memory have no effect and are not changed, and strings that were returned do not change.
func TestRuleArguments(t *testing.T) {
	r := rand.New(rand.NewSource(3))
	all := full(r, 60)
	whole := strings.Clone(all)
	var results, wants []string
	for range 2000 {
		i, j := r.Intn(61), 1+r.Intn(60)
		p, q := all[:i], all[:j]
		s, _ := galois.Product(p, q)
		quotient, rest, _ := galois.Quotient(p, q)
		results = append(results, galois.Sum(p, q), s, galois.Derived(p), galois.Sum(rest, wantAnyProduct(quotient, q)))
		wants = append(wants, wantSum(whole[:i], whole[:j]), wantAnyProduct(whole[:i], whole[:j]), wantDerived(whole[:i]), whole[:i])
	}
	for i, s := range results {
		if s != wants[i] {
			t.Fatalf("the result %d has become %x, not %x", i, s, wants[i])
		}
	}
	if all != whole {
		t.Errorf("%x has become %x", whole, all)
	}
}

// allResults returns what each function returns for a few arguments.
func allResults() string {
	var l []any
	texts := []string{"", "\x00", "\x01\x02", "\x07\x08\x09\x00", "123456789"}
	for i, p := range texts {
		a := byte(37 * i)
		x, e := galois.Div(a, byte(i%3))
		y, f := galois.Pow(a, i-3)
		k, ok := galois.Log(a)
		l = append(l, galois.Mul(a, 0x53), x, e, y, f, k, ok, galois.Degree(p), galois.Eval(p, a), galois.Derived(p))
		for _, q := range texts {
			s, e := galois.Product(p, q)
			quotient, rest, f := galois.Quotient(p, q)
			l = append(l, galois.Sum(p, q), s, e, quotient, rest, f)
		}
	}
	return fmt.Sprintf("%x", l)
}

// R6: results do not depend on earlier calls, nor on calls at the same time.
func TestRuleNoState(t *testing.T) {
	first := allResults()
	for range 20 {
		if again := allResults(); again != first {
			t.Fatalf("first %s, then %s", first, again)
		}
	}
	var wait sync.WaitGroup
	for range 8 {
		wait.Go(func() {
			if again := allResults(); again != first {
				t.Errorf("at the same time %s, not %s", again, first)
			}
		})
	}
	wait.Wait()
}
