package convol

import "iter"

const (
	// byteBits is the number of bits of a byte.
	byteBits = 8
	// tail is the number of bits 0 behind a message: with them the state becomes 0 again.
	tail = 6
	// rate is the number of symbols of a step.
	rate = 2
	// states is the number of states, which tell as many bits as the tail has.
	states = 1 << tail
	// choices is the number of steps from a state, one for each bit.
	choices = 2
	// The bits of the register that a symbol depends on.
	mask1 = 0x79
	mask2 = 0x5b
)

// step is what the encoder does with a bit: the next state and two symbols.
type step struct{ next, first, second int }

// newStep returns the step from a state with a bit.
func newStep(state, bit int) step {
	register := states*bit + state
	return step{
		next:   register / 2,
		first:  parity(register & mask1),
		second: 1 - parity(register&mask2),
	}
}

// allSteps returns the steps from each state with each bit.
func allSteps() [states][choices]step {
	var all [states][choices]step
	for state := range states {
		for bit := range choices {
			all[state][bit] = newStep(state, bit)
		}
	}
	return all
}

// parity returns 1 if the number of bits 1 of n, which is not below 0, is odd, and otherwise 0.
func parity[N ~int | ~uint](n N) N {
	odd := N(0)
	for ; n > 0; n /= 2 {
		odd ^= n % 2
	}
	return odd
}

// bitsOf yields the bits of a message, the highest one of each byte first, and those of the tail.
func bitsOf(data string) iter.Seq[int] {
	return func(yield func(int) bool) {
		for i := range len(data) {
			for down := byteBits - 1; down >= 0; down-- {
				if !yield(int(data[i]) >> down & 1) {
					return
				}
			}
		}
		for range tail {
			if !yield(0) {
				return
			}
		}
	}
}
