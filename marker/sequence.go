package marker

const (
	// byteBits is the number of bits of a byte.
	byteBits = 8
	// firstBits is the first byte of the pseudo-random sequence.
	firstBits byte = 0xff
)

// sequence returns the first n bytes of the pseudo-random sequence.
func sequence(n int) []byte {
	b := make([]byte, n)
	last := firstBits
	for i := range b {
		b[i] = last
		last = behind(last)
	}
	return b
}

// behind returns the byte of the sequence that follows on a byte.
func behind(last byte) byte {
	for range byteBits {
		// The lowest bit of last is 1 place before the next bit, and the highest one 8 places.
		next := (last ^ last>>2 ^ last>>4 ^ last>>7) & 1
		last = last<<1 | next
	}
	return last
}
