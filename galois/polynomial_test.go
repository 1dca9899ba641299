package galois_test

import (
	"math/rand"
	"strings"
	"testing"

	"perigee/galois"
)

func TestP4_3Examples(t *testing.T) {
	for _, c := range []struct {
		p      string
		degree int
	}{
		{"", -1},
		{"\x00", -1},
		{"\x00\x00", -1},
		{"\x01", 0},
		{"\x01\x00", 0},
		{"\x00\xff", 1},
		{"\x00\x80\x00\x00", 1},
		{strings.Repeat("\x00", 5000), -1},
		{strings.Repeat("\x00", 5000) + "\x01", 5000},
	} {
		if n := galois.Degree(c.p); n != c.degree {
			t.Errorf("the degree of %d bytes is %d, not %d", len(c.p), n, c.degree)
		}
	}
	for _, c := range []struct{ p, q, sum string }{
		{"\x01\x02", "\x01\x02", ""},
		{"", "", ""},
		{"\x00", "", ""},
		{"", "\x00\x00", ""},
		{"\x01\x02\x00", "\x04", "\x05\x02"},
		{"\x04", "\x01\x02\x00", "\x05\x02"},
		{"\x01\x02\x03", "\x00\x02\x03", "\x01"},
		{"\x07", "", "\x07"},
		{"", "\x00\x07", "\x00\x07"},
	} {
		if p := galois.Sum(c.p, c.q); p != c.sum {
			t.Errorf("Sum(%x, %x) = %x, not %x", c.p, c.q, p, c.sum)
		}
	}
	for _, c := range []struct{ p, derived string }{
		{"\x05\x06\x07\x08", "\x06\x00\x08"},
		{"", ""},
		{"\x05", ""},
		{"\x05\x06", "\x06"},
		{"\x05\x00\x07", ""},
		{"\x05\x06\x07", "\x06"},
		{"\x05\x06\x07\x00", "\x06"},
		{"\x00\x00\x00\x00\xff\xff", "\x00\x00\x00\x00\xff"},
	} {
		if p := galois.Derived(c.p); p != c.derived {
			t.Errorf("Derived(%x) = %x, not %x", c.p, p, c.derived)
		}
	}
}

func TestP4_3EvalExamples(t *testing.T) {
	for _, c := range []struct {
		p    string
		x, y byte
	}{
		{"\x02\x03\x01", 0x00, 0x02},
		{"\x02\x03\x01", 0x01, 0x00},
		{"\x02\x03\x01", 0x02, 0x00},
		{"", 0x00, 0x00},
		{"", 0x07, 0x00},
		{"\x00\x00", 0x07, 0x00},
		{"\x07", 0x00, 0x07},
		{"\x07", 0xff, 0x07},
		{"\x07\x00\x00", 0xff, 0x07},
		{"\x00\x01", 0xff, 0xff},
		{"\x00\x00\x00\x00\x00\x00\x00\x00\x01", 0x02, 0x1d},
	} {
		if y := galois.Eval(c.p, c.x); y != c.y {
			t.Errorf("Eval(%x, %02x) = %02x, not %02x", c.p, c.x, y, c.y)
		}
	}
}

func checkTerms(t *testing.T, p, q string) {
	t.Helper()
	if n, want := galois.Degree(p), wantDegree(p); n != want {
		t.Fatalf("Degree(%x) = %d, not %d", p, n, want)
	}
	if s, want := galois.Sum(p, q), wantSum(p, q); s != want {
		t.Fatalf("Sum(%x, %x) = %x, not %x", p, q, s, want)
	}
	if d, want := galois.Derived(p), wantDerived(p); d != want {
		t.Fatalf("Derived(%x) = %x, not %x", p, d, want)
	}
}

func checkEval(t *testing.T, p string, x byte) {
	t.Helper()
	if y, want := galois.Eval(p, x), wantEval(p, x); y != want {
		t.Fatalf("Eval(%x, %02x) = %02x, not %02x", p, x, y, want)
	}
}

func TestP4_3Random(t *testing.T) {
	r := rand.New(rand.NewSource(43))
	for range 20000 {
		p, q := anyPolynomial(r, r.Intn(9)), anyPolynomial(r, r.Intn(9))
		checkTerms(t, p, q)
		// Sums whose highest coefficients are 0.
		checkTerms(t, q, wantSum(p, q))
		checkEval(t, p, anyElement(r))
	}
	for n := range 300 {
		p := anyPolynomial(r, n)
		checkTerms(t, p, anyPolynomial(r, r.Intn(300)))
		checkEval(t, p, anyElement(r))
	}
}

func TestP4_3All(t *testing.T) {
	r := rand.New(rand.NewSource(44))
	for x := range 256 {
		checkEval(t, full(r, 1+r.Intn(600)), byte(x))
		for n := range 520 {
			// A single term.
			if y, want := galois.Eval(power(n, n%3), byte(x)), wantFactors(byte(x), uint64(n)); y != want {
				t.Fatalf("x^%d at %02x is %02x, not %02x", n, x, y, want)
			}
		}
	}
}

// No limit is named for these functions.
func TestP4_3Long(t *testing.T) {
	r := rand.New(rand.NewSource(45))
	for _, n := range []int{1023, 1024, 1025, 65536, 65537, 1 << 18} {
		p, q := full(r, n), full(r, n/2)
		if d := galois.Degree(p + "\x00\x00"); d != n-1 {
			t.Errorf("the degree of %d bytes is %d", n, d)
		}
		if galois.Sum(p, q) != wantSum(p, q) || galois.Sum(q, p) != wantSum(p, q) || galois.Sum(p, p) != "" {
			t.Errorf("a sum of %d bytes is wrong", n)
		}
		checkEval(t, p, byte(r.Intn(256)))
		d := galois.Derived(p)
		if len(d) != n/2*2-1 {
			t.Errorf("the derivative of %d bytes has %d bytes", n, len(d))
		}
		for i, c := range []byte(d) {
			if c != p[i+1]*byte(1-i%2) {
				t.Fatalf("the derivative of %d bytes has a wrong byte at %d", n, i)
			}
		}
	}
}
