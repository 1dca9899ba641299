package crc

const (
	// byteBits is the number of bits of a byte.
	byteBits = 8
	// What the registers are combined with when a bit has been shifted out that differs from the one that is taken.
	poly16 = 0x1021
	poly32 = 0xedb88320
)

// register is the contents of a shift register.
type register interface{ uint16 | uint32 }

// shift16 returns what the register of 16 bits contains after it took a bit 0.
func shift16(r uint16) uint16 {
	if r>>15 != 0 {
		return r<<1 ^ poly16
	}
	return r << 1
}

// shift32 returns what the register of 32 bits contains after it took a bit 0.
func shift32(r uint32) uint32 {
	if r&1 != 0 {
		return r>>1 ^ poly32
	}
	return r >> 1
}

// afterZero returns what a register contains after it began with r and took a byte 0.
func afterZero[R register](shift func(R) R, r R) R {
	for range byteBits {
		r = shift(r)
	}
	return r
}

// byteSums returns what a register contains after it began with 0 and took a byte, for each byte.
// The lowest bit of a byte meets the one of the register that has up others below it.
func byteSums[R register](shift func(R) R, up int) [1 << byteBits]R {
	var sums [1 << byteBits]R
	for bit := 1; bit < len(sums); bit *= 2 {
		// To take a bit is to invert the one of the register that it meets, and to take a bit 0 then.
		sum := afterZero(shift, R(bit)<<up)
		// The register is linear: the sum of a byte is combined from those of its bits.
		for lower := range bit {
			sums[bit+lower] = sum ^ sums[lower]
		}
	}
	return sums
}
