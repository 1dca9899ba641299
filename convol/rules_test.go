package convol_test

import (
	"fmt"
	"math/rand"
	"strings"
	"sync"
	"testing"

	"perigee/api"
	"perigee/convol"
)

// R1: every function returns for all arguments.
func TestRuleReturns(t *testing.T) {
	r := rand.New(rand.NewSource(1))
	numbers := append(noStates(), noBits()...)
	for n := -70; n < 70; n++ {
		numbers = append(numbers, n)
	}
	for _, state := range numbers {
		convol.Symbols(state)
		for _, bit := range numbers {
			convol.Step(state, bit)
		}
	}
	for _, n := range []int{0, 1, 2, 255, 256, 1099, 1100, 1101, 1 << 16, 1 << 24} {
		for _, data := range []string{strings.Repeat("\x00", n), strings.Repeat("\xff", n), anyMessage(r, n)} {
			convol.Encode(data)
		}
	}
}

// R2: with an error the other result is zero.
func TestRuleErrors(t *testing.T) {
	r := rand.New(rand.NewSource(2))
	failed := 0
	for n := 1090; n < 1110; n++ {
		s, e := convol.Encode(anyMessage(r, n))
		if e != api.OK && s != "" || e == api.OK && s == "" {
			t.Fatalf("Encode of %d bytes: the error %d, and %d symbols", n, e, len(s))
		}
		if e != api.OK {
			failed++
		}
	}
	if failed != 9 {
		t.Errorf("%d errors", failed)
	}
}

// R3: bytes that stand behind an argument in memory have no effect and are not changed, and strings that were returned do not change.
func TestRuleArguments(t *testing.T) {
	r := rand.New(rand.NewSource(3))
	all := anyMessage(r, 100)
	whole := strings.Clone(all)
	var results []string
	for n := range len(all) + 1 {
		s, _ := convol.Encode(all[:n])
		results = append(results, s)
	}
	for n, s := range results {
		if want, _ := wantEncode(whole[:n]); s != want {
			t.Fatalf("the symbols of %x have become %x, not %x", whole[:n], s, want)
		}
	}
	if all != whole {
		t.Errorf("%x has become %x", whole, all)
	}
}

// allResults returns what each function returns for a few arguments.
func allResults() string {
	var l []any
	for i, data := range []string{"", "\x00", "\x80", "\xff\xfe", "123456789", strings.Repeat("a", 1101)} {
		s, e := convol.Encode(data)
		l = append(l, s, e, convol.Symbols(len(data)))
		for bit := range 3 {
			next, first, second := convol.Step(13*i, bit)
			l = append(l, next, first, second)
		}
	}
	return fmt.Sprintf("%x", l)
}

// R6: results do not depend on earlier calls, nor on calls at the same time.
func TestRuleNoState(t *testing.T) {
	first := allResults()
	for range 20 {
		if again := allResults(); again != first {
			t.Fatalf("first %s, then %s", first, again)
		}
	}
	var wait sync.WaitGroup
	for range 8 {
		wait.Go(func() {
			if again := allResults(); again != first {
				t.Errorf("at the same time %s, not %s", again, first)
			}
		})
	}
	wait.Wait()
}
