package galois

const (
	// units is the number of elements other than 0. They are the powers of 2.
	units = 255
	// modulus is x^8 + x^4 + x^3 + x^2 + 1 without x^8.
	modulus = 0x1d
)

// tables contains the logarithms of the elements to the base 2, and the powers of 2.
type tables struct {
	powers [units]byte
	// That of 0 is unused.
	logs [units + 1]byte
}

// filled returns the tables.
func filled() tables {
	var t tables
	a := byte(1)
	for k := range units {
		t.powers[k] = a
		t.logs[a] = byte(k)
		a = doubled(a)
	}
	return t
}

// doubled returns the product of 2 and an element.
func doubled(a byte) byte {
	if a>>7 != 0 {
		return a<<1 ^ modulus
	}
	return a << 1
}

// log returns the logarithm of an element other than 0.
func (t *tables) log(a byte) int { return int(t.logs[a]) }

// power returns the power of 2 with the exponent k, which may be below 0.
func (t *tables) power(k int) byte {
	// The remainder of a number below 0 is not above 0.
	return t.powers[(k%units+units)%units]
}

// product returns the product of two elements.
func (t *tables) product(a, b byte) byte {
	if a == 0 || b == 0 {
		return 0
	}
	return t.powers[(t.log(a)+t.log(b))%units]
}

// inverse returns the element whose product with a, which is not 0, is 1.
func (t *tables) inverse(a byte) byte { return t.power(-t.log(a)) }

// factor multiplies coefficients by an element.
type factor struct {
	t *tables
	a byte
}

// times returns the product of the factor and a coefficient.
func (f factor) times(c byte) byte { return f.t.product(f.a, c) }
