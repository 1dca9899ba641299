package crc

// matrix says what becomes of the bits of a register: its columns are what becomes of each one alone, the lowest first.
type matrix[R register] []R

// zeros returns what a register contains after it began with r and took n bytes 0.
func zeros[R register](shift func(R) R, r R, n int) R {
	// The bytes are taken in powers of two, because there may be 2^30 of them.
	for m := zeroByte(shift); n > 0; n /= 2 {
		if n%2 == 1 {
			r = image(m, r)
		}
		m = product(m, m)
	}
	return r
}

// zeroByte returns the matrix of a byte 0 that a register takes.
func zeroByte[R register](shift func(R) R) matrix[R] {
	var m matrix[R]
	for bit := R(1); bit != 0; bit <<= 1 {
		m = append(m, afterZero(shift, bit))
	}
	return m
}

// image returns what becomes of r by a matrix.
func image[R register](m matrix[R], r R) R {
	sum := R(0)
	for i, column := range m {
		if r>>i&1 != 0 {
			sum ^= column
		}
	}
	return sum
}

// product returns the matrix that does what b does, and then what a does.
func product[R register](a, b matrix[R]) matrix[R] {
	p := make(matrix[R], len(b))
	for i, column := range b {
		p[i] = image(a, column)
	}
	return p
}
